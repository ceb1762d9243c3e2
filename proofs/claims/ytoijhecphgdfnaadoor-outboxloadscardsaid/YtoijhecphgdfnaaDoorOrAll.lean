/-
  List of copies, each text in a block of its own: the program's List and the document's All.
-/
import Derived.Test.YtoijhecphgdfnaaDoorOxSameL
namespace Go.Proofs.YtoijhecphgdfnaaDoor
open Go.RowKit

/-- Copies of messages: their texts elsewhere, each by itself. -/
structure CpF (w : World) (B : Nat) (ls ms : List Msg) : Prop where
  wis : Wis ls ms
  own : ∀ l ∈ ls, BRow w B (.slice l.tp l.tn l.tc) l.tx
  sep : ∀ (i j : Nat) (l l' : Msg), i < j → ls[i]? = some l → ls[j]? = some l' → ∀ q, (Value.slice l'.tp l'.tn l'.tc).ownBlock = some q → (Value.slice l.tp l.tn l.tc).ownBlock ≠ some q
section
variable {w w' : World} {B : Nat} {ls ms : List Msg} {l m : Msg}
theorem CpF.nil (w : World) (B : Nat) : CpF w B [] [] := ⟨Wis.nil, fun l h => (by cases h), fun i j l l' _ h => by simp at h⟩
theorem CpF.off {P : Nat → Prop} (h : CpF w B ls ms) (o : Off P w w') (hP : ∀ l ∈ ls, ∀ q, (Value.slice l.tp l.tn l.tc).ownBlock = some q → ¬ P q) : CpF w' B ls ms := ⟨h.wis, fun l hl => ERow.off (h.own l hl) o (hP l hl), h.sep⟩
theorem CpF.below (h : CpF w B ls ms) (hb : Below w.heap.size w w') : CpF w' B ls ms := ⟨h.wis, fun l hl => ERow.below (h.own l hl) hb, h.sep⟩
theorem CpF.base {C : Nat} (h : CpF w B ls ms) (hC : C ≤ B) : CpF w C ls ms := ⟨h.wis, fun l hl => ERow.base (h.own l hl) hC, h.sep⟩
theorem CpF.snoc (h : CpF w B ls ms) (h1 : ∃ a c, l = m.wi a c) (h2 : BRow w B (.slice l.tp l.tn l.tc) l.tx) (h3 : ∀ x ∈ ls, ∀ q, (Value.slice l.tp l.tn l.tc).ownBlock = some q → (Value.slice x.tp x.tn x.tc).ownBlock ≠ some q) : CpF w B (ls ++ [l]) (ms ++ [m]) := by
  refine ⟨h.wis.snoc h1, fun x hx => ?_, fun i j x y hij hx hy q hq => ?_⟩
  · rcases List.mem_append.1 hx with g | g
    · exact h.own x g
    · obtain rfl : x = l := by simpa using g
      exact h2
  · have hjl := (List.getElem?_eq_some_iff.1 hy).1
    simp only [List.length_append, List.length_singleton] at hjl
    rw [List.getElem?_append_left (by omega)] at hx
    by_cases hj : j < ls.length
    · rw [List.getElem?_append_left hj] at hy
      exact h.sep i j x y hij hx hy q hq
    · obtain rfl : j = ls.length := by omega
      rw [List.getElem?_append_right (Nat.le_refl _), Nat.sub_self] at hy
      simp only [List.getElem?_cons_zero, Option.some.injEq] at hy
      subst hy
      exact h3 x (List.mem_of_getElem? hx) q hq
theorem CpF.cps (h : CpF w B ls ms) : Cps w ls ms := ⟨h.wis.1, fun i l m hl hm => ⟨h.wis.2 i l m hl hm, ERow.base (h.own l (List.mem_of_getElem? hl)) (Nat.zero_le _)⟩⟩
end
/-- In the midst of List. -/
structure LsF (w : World) (g n : Nat) (ms : List Msg) (i : Nat) (wx : World) : Prop where
  ex : ∃ ls, ls.length = i ∧ ERow wx w.heap.size 74 10 encM (.slice (some ⟨g, 0, none⟩) n n) (ls ++ List.replicate (n - i) zM) ∧ CpF wx w.heap.size ls (ms.take i)
  bel : Below w.heap.size w wx
/-- List's answer: the copies ls. -/
def LtS (w : World) (ms : List Msg) (e : Ending) (w' : World) : Prop := ∃ ls a c, e = .returned (.slice a ms.length c) ∧ ERow w' w.heap.size 74 10 encM (.slice a ms.length c) ls ∧ CpF w' w.heap.size ls ms ∧ Below w.heap.size w w'
section
variable {w w' : World} {b kb : Nat} {v : Value} {sq : Bool} {tr : Int} {ms : List Msg}
set_option maxRecDepth 100000 in
set_option maxHeartbeats 4000000 in
theorem list_s (h : Bx w b kb v sq tr ms) : Calls Tryd.prog 13 #[.pointer (some ⟨b, 0, none⟩)] w (LtS w ms) := by
  have hmk := made_yes h
  have hct := count_any h.2.1
  have c0 := hcell h.1 0
  have lb := h.lt
  obtain ⟨a, c, rfl, _⟩ := h.2.1.2.1.isSlice
  obtain ⟨n, hn⟩ : ∃ n, ms.length = n := ⟨_, rfl⟩
  have q2 : n ≤ 32 := by rw [← hn]; exact h.2.1.2.2
  obtain ⟨w1, hmk1, hR, hB1⟩ := run_make_sents (w := w) n (by omega)
  have HI : Hid (LsF w w.heap.size n ms 0 w1) := ⟨⟨[], rfl, by simpa using hR, by simpa using CpF.nil _ _⟩, hB1⟩
  have HHw : Hid (Bx w b kb (.slice a n c) sq tr ms) := by rw [hn] at h; exact h
  have c1 : ∀ o, w1.cell? ⟨b, o, none⟩ = w.cell? ⟨b, o, none⟩ := fun o => hB1.cell (p := ⟨b, o, none⟩) lb
  have k1 := hcell (HHw.out.2.1.below hB1).1 1
  have lk := blk_lt (HHw.out.2.1.below hB1).1
  have HL : Hid (ms.length = n) := hn
  rw [hn] at hct
  clear hn h hR hB1
  go_enter Tryd.func13, Tryd.ntmps13
  go_wp2_with (first | (go_at_call 32; refine hmk.mono ?_; rintro _ w9 ⟨rfl, h9⟩; subst w9) | (go_at_call 33; refine hct.mono ?_; rintro _ w9 ⟨rfl, h9⟩; subst w9))
  clear hmk hct hmk1 c1 k1 lk c0 lb
  go_loopw [23] (fun t wx => ∃ i : Nat, i ≤ n ∧ t = .int .i64 i ∧ Hid (LsF w w.heap.size n ms i wx)) (fun t _ => n - (intOf t).toNat)
  case atStart => exact ⟨0, Nat.zero_le _, rfl, HI⟩
  case round =>
    obtain ⟨i, hi, rfl, HR⟩ := hrel
    by_cases hlt : i < n
    · have hlt1 : (i : Int) < n := by omega
      obtain ⟨m, hm⟩ : ∃ m, ms[i]? = some m := ⟨_, List.getElem?_eq_getElem (by rw [HL.out]; exact hlt)⟩
      have HHr : Hid (Bx wr b kb (.slice a n c) sq tr ms) := HHw.out.below HR.out.bel
      obtain ⟨g, rfl, hg, hc⟩ := erow_cells HHr.out.2.1.2.1 hm
      obtain ⟨d0, d1, d2, d3, d4, d5, d6, d7, d8, d9⟩ := hc
      have HM : Hid (ms[i]? = some m) := hm
      have htx := HHr.out.2.2 m (List.mem_of_getElem? hm)
      have hcp := fun o => copied_any m (wr.alloc o) ((htx.1.byts).below ((Below.refl _ _).alloc (Nat.le_refl _) _)) htx.1.nilcap (by have := htx.2; omega)
      clear hm htx
      go_wp2_with fail
      refine (hcp _).mono ?_
      rintro _ w5 ⟨a5, c5, rfl, hr5, hb5⟩
      have HB5 : Hid (Below w.heap.size w w5 ∧ Below wr.heap.size wr w5) := ⟨below_then (HR.out.bel.alloc HR.out.bel.size _) hb5, below_then ((Below.refl _ _).alloc (Nat.le_refl _) _) hb5⟩
      obtain ⟨ls, hls, hrow, hcps⟩ := HR.out.ex
      have hrow5 := hrow.below HB5.out.2
      have hll : (ls ++ List.replicate (n - i) zM).length = n := by simp; omega
      obtain ⟨z0, hz0⟩ : ∃ z0, (ls ++ List.replicate (n - i) zM)[i]? = some z0 := ⟨_, List.getElem?_eq_getElem (by rw [hll]; exact hlt)⟩
      obtain ⟨g', eg, hgl, hgc⟩ := erow_cells hrow5 hz0
      obtain rfl : w.heap.size = g' := by simpa using eg
      obtain ⟨e0, e1, e2, e3, e4, e5, e6, e7, e8, e9⟩ := hgc
      have hfz := ERow.thaw hrow5
      have HZ : Hid (LsF w w.heap.size n ms (i + 1) (w5.setCells w.heap.size (i * 10) (encM (m.wi a5 c5)))) := by
        have o1 : Off (fun q => q = w.heap.size) w5 (w5.setCells w.heap.size (i * 10) (encM (m.wi a5 c5))) := Off.setCells (P := fun q => q = w.heap.size) rfl _ _ _ (Off.refl _ _)
        have hset := erow_set hrow5 (m.wi a5 c5) (i := i) (by rw [hll]; exact hlt)
        have hse : (ls ++ List.replicate (n - i) zM).set i (m.wi a5 c5) = (ls ++ [m.wi a5 c5]) ++ List.replicate (n - (i + 1)) zM := by
          obtain ⟨k, hk⟩ : ∃ k, n - i = k + 1 := ⟨n - i - 1, by omega⟩
          rw [hk, List.replicate_succ, List.set_append_right _ _ (by omega), hls, Nat.sub_self, List.set_cons_zero, show n - (i + 1) = k by omega]
          simp
        have hne : ∀ v bs, BRow w5 w.heap.size v bs → ∀ q, v.ownBlock = some q → ¬ q = w.heap.size := fun v bs hv q hq e => own_ne hv hrow5 (by decide) q hq (by rw [e]; rfl)
        refine ⟨⟨ls ++ [m.wi a5 c5], by simp [hls], by rw [← hse]; exact hset, ?_⟩, HB5.out.1.trans (o1.below HB5.out.1.size (fun k hk => by omega))⟩
        rw [List.take_succ_eq_append_getElem (by rw [HL.out]; exact hlt), show ms[i]'(by rw [HL.out]; exact hlt) = m by have := HM.out; rw [List.getElem?_eq_getElem (by rw [HL.out]; exact hlt)] at this; exact Option.some.inj this]
        have hb5' : BRow w5 w.heap.size (.slice a5 m.tn c5) m.tx := ERow.base hr5 (by have := HR.out.bel.size; simp; omega)
        refine ((hcps.below HB5.out.2).off o1 fun l hl q hq => hne _ _ ((hcps.below HB5.out.2).own l hl) q hq).snoc ⟨a5, c5, rfl⟩ (ERow.off hb5' o1 fun q hq => hne _ _ hb5' q hq) fun l hl q hq hq' => ?_
        have h1 := (ERow.lt (hcps.own l hl) hq').2
        have h2 := (ERow.lt hr5 hq).1
        simp at h2
        omega
      clear hcp hr5 hb5 hls hrow hcps hrow5 hll hz0 eg d0 d1 d2 d3 d4 d5 d6 d7 d8 d9
      go_wp2_with fail
      go_roundw
      case rel => exact ⟨i + 1, hlt, by go_num, HZ⟩
      case measure => simp [intOf]; omega
    · have hlt1 : ¬ (i : Int) < n := by omega
      have hin : i = n := by omega
      have HZ : Hid (∃ ls, ERow wr w.heap.size 74 10 encM (.slice (some ⟨w.heap.size, 0, none⟩) n n) ls ∧ CpF wr w.heap.size ls ms) := by
        obtain ⟨ls, hls, hrow, hcps⟩ := HR.out.ex
        rw [List.take_of_length_le (by rw [HL.out]; omega)] at hcps
        rw [hin, Nat.sub_self, List.replicate_zero, List.append_nil] at hrow
        exact ⟨ls, hrow, hcps⟩
      clear hin
      go_wp2_with fail
      go_ret
      obtain ⟨ls, hrow, hcps⟩ := HZ.out
      exact ⟨ls, some ⟨w.heap.size, 0, none⟩, n, by rw [HL.out]; rfl, by rw [HL.out]; exact hrow, hcps, HR.out.bel⟩
/-- In the midst of All. -/
structure RaF (w : World) (ms : List Msg) (i : Nat) (v : Value) (wx : World) : Prop where
  ex : ∃ ls, ERow wx w.heap.size 74 10 encM v ls ∧ CpF wx w.heap.size ls (ms.take i)
  bel : Below w.heap.size w wx
section
variable {r : Nat} {L : Value} {B i : Nat} {wx z : World} {m : Msg}
theorem RaF.push (h : RaF w ms i v wx) (hm : ms[i]? = some m) (hl : ms.length ≤ 32) (hb : Below wx.heap.size wx z) {a : Option Addr} {c : Nat} (hr : BRow z wx.heap.size (.slice a m.tn c) m.tx) :
    ∃ a2 n2 c2 W2, (Builtin.append_ #[60, 60] 60 #[v, .slice (some ⟨z.heap.size, 0, none⟩) 1 1]).run Tryd.prog (z.alloc (.cells #[.string m.ct, .slice a m.tn c, .bool m.e, .int .i64 m.a, .int .i64 m.p, .int .i64 m.nu, .bool m.nt, .int .i64 m.st, .int .i64 m.lf, .bool m.un] 74)) = .ok (.slice a2 n2 c2) W2 ∧ Hid (RaF w ms (i + 1) (.slice a2 n2 c2) W2) := by
  obtain ⟨ls, h1, h2⟩ := h.ex
  have hil := (List.getElem?_eq_some_iff.1 hm).1
  have hln : ls.length = i := by rw [h2.wis.1, List.length_take]; omega
  have hB := h.bel.size
  have h1' := ERow.below h1 hb
  have h2' := h2.below hb
  obtain ⟨a2, c2, W2, hr2, r2, o2, s2⟩ := run_epush (P := Tryd.prog) (t := 60) Tryd.underlying60 celS encM_len encM_one (w := z) h1' (m.wi a c) #[.string m.ct, .slice a m.tn c, .bool m.e, .int .i64 m.a, .int .i64 m.p, .int .i64 m.nu, .bool m.nt, .int .i64 m.st, .int .i64 m.lf, .bool m.un] rfl (by omega) (by decide) (Nat.le_trans hB hb.size)
  have hne : ∀ u bs, BRow z 0 u bs → ∀ q, u.ownBlock = some q → ¬ v.ownBlock = some q := fun u bs hu q hq => own_ne hu h1' (by decide) q hq
  refine ⟨a2, _, c2, W2, hr2, ⟨_, r2, ?_⟩, ?_⟩
  · rw [List.take_add_one, hm]
    refine (h2'.off o2 fun l hl q hq => hne _ _ (ERow.base (h2'.own l hl) (Nat.zero_le _)) q hq).snoc ⟨a, c, rfl⟩ (ERow.off (ERow.base hr hB) o2 fun q hq => hne _ _ (ERow.base hr (Nat.zero_le _)) q hq) fun l hl q hq hq' => ?_
    have g1 := (ERow.lt (h2.own l hl) hq').2
    have g2 := (ERow.lt hr hq).1
    omega
  · exact (below_then h.bel hb).trans (o2.below (Nat.le_trans hB hb.size) fun q hq => (ERow.lt h1' hq).1)
set_option maxRecDepth 100000 in
set_option maxHeartbeats 4000000 in
theorem rAll_any (h : RB w B r L sq tr ms) : Calls Tryd.prog 14 #[.pointer (some ⟨r, 0, none⟩)] w (LtS w ms) := by
  obtain ⟨a, c, e1, _⟩ := ERow.isSlice h.row
  subst e1
  obtain ⟨n, hn⟩ : ∃ n, ms.length = n := ⟨_, rfl⟩
  have HH : Hid (RB w B r (.slice a n c) sq tr ms ∧ ms.length = n) := ⟨by have := h; rw [hn] at this; exact this, hn⟩
  have hn32 : (n : Int) ≤ 1000 := by have := h.len; omega
  have HS : Hid (RaF w ms 0 (.slice none 0 0) w) := ⟨⟨[], ERow.nil _ _ _ _ _, by simpa using CpF.nil _ _⟩, Below.refl _ _⟩
  clear h hn
  go_enter Tryd.func14, Tryd.ntmps14
  go_wp2_with fail
  go_loopw [3, 4] (fun t3 t4 wx => ∃ i : Nat, i ≤ n ∧ t4 = .int .i64 (i : Int) ∧ (∃ a2 n2 c2, t3 = .slice a2 n2 c2) ∧ Hid (RaF w ms i t3 wx)) (fun _ t4 _ => n - (intOf t4).toNat)
  case atStart => exact ⟨0, Nat.zero_le _, rfl, ⟨_, _, _, rfl⟩, HS⟩
  case round =>
    clear HS
    obtain ⟨i, hi, rfl, ⟨a2, n2, c2, rfl⟩, HI⟩ := hrel
    have hr := HH.out.1.below HI.out.bel
    have c0 := hcell hr.blk 0
    have lr := hr.lt
    by_cases hlt : i < n
    · have hlt1 : (i : Int) < n := by omega
      obtain ⟨m, hm⟩ : ∃ m, ms[i]? = some m := ⟨_, List.getElem?_eq_getElem (by rw [HH.out.2]; exact hlt)⟩
      obtain ⟨g, rfl, hg, hc⟩ := erow_cells hr.row hm
      obtain ⟨d0, d1, d2, d3, d4, d5, d6, d7, d8, d9⟩ := hc
      have hd := rownSent_any m wr (hr.own m (List.mem_of_getElem? hm)).1.byts (by have := (hr.own m (List.mem_of_getElem? hm)).2; omega)
      have HM : Hid (ms[i]? = some m ∧ ms.length ≤ 32) := ⟨hm, hr.len⟩
      clear hm hr
      go_wp2_with fail
      refine hd.mono ?_
      rintro _ w1 ⟨a1, c1, rfl, ho, hb⟩
      obtain ⟨a3, n3, c3, W3, hap, HZ⟩ := HI.out.push HM.out.1 HM.out.2 hb ho
      clear hd ho hb d0 d1 d2 d3 d4 d5 d6 d7 d8 d9 c0 HI
      go_wp2_with (at_builtin; refine wpList_append_run rfl (.tmp 18) (.tmp 27) 60 _ rfl hap ?_)
      go_roundw
      case rel => exact ⟨i + 1, hlt, by go_num, ⟨_, _, _, rfl⟩, HZ⟩
      case measure => simp [intOf]; omega
    · have hlt1 : ¬ (i : Int) < n := by omega
      obtain rfl : i = n := by omega
      have HZ : Hid (∃ ls c4, n2 = i ∧ ERow wr w.heap.size 74 10 encM (.slice a2 i c4) ls ∧ CpF wr w.heap.size ls ms ∧ c4 = c2) := by
        obtain ⟨ls, h1, h2⟩ := HI.out.ex
        rw [List.take_of_length_le (by rw [HH.out.2]; exact Nat.le_refl _)] at h2
        have e : n2 = i := by rw [ERow.len h1, h2.wis.1]; exact HH.out.2
        exact ⟨ls, c2, e, by rw [← e]; exact h1, h2, rfl⟩
      clear hr
      go_wp2_with fail
      go_ret
      obtain ⟨ls, c4, e, h1, h2, e2⟩ := HZ.out
      subst e2
      exact ⟨ls, a2, c4, by rw [HH.out.2, e]; rfl, by rw [HH.out.2]; exact h1, h2, HI.out.bel⟩
end
end
end Go.Proofs.YtoijhecphgdfnaaDoor
