import Derived.Test.YtoijhecphgdfnaaGreatDoorOxSameL
import Derived.Test.YtoijhecphgdfnaaGreatDoorOrDone2
/-
  List of copies, each text in a block of its own: the program's List and the document's All.
-/
namespace Go.Proofs.YtoijhecphgdfnaaGreatDoor
open Go.RowKit

/-- Copies of messages: their texts elsewhere, each by itself. -/
structure CpF (w : World) (B : Nat) (ls ms : List Msg) : Prop where
  wis : Wis ls ms
  own : ∀ l ∈ ls, BRow w B (.slice l.tp l.tn l.tc) l.tx
  sep : ∀ (i j : Nat) (l l' : Msg), i < j → ls[i]? = some l → ls[j]? = some l' → ∀ q, (Value.slice l'.tp l'.tn l'.tc).ownBlock = some q → (Value.slice l.tp l.tn l.tc).ownBlock ≠ some q
section
variable {w w' : World} {B : Nat} {ls ms : List Msg} {l m : Msg}
theorem CpF.nil (w : World) (B : Nat) : CpF w B [] [] := ⟨Wis.nil, fun l h => (by cases h), fun i j l l' _ h => by simp at h⟩
theorem CpF.off {P : Nat → Prop} (h : CpF w B ls ms) (o : Off P w w') (hP : ∀ l ∈ ls, ∀ q, (Value.slice l.tp l.tn l.tc).ownBlock = some q → ¬ P q) : CpF w' B ls ms := ⟨h.wis, fun l hl => ERow.off (h.own l hl) o (hP l hl), h.sep⟩
theorem CpF.below (h : CpF w B ls ms) (hb : Below w.heap.size w w') : CpF w' B ls ms := ⟨h.wis, fun l hl => ERow.below (h.own l hl) hb, h.sep⟩
theorem CpF.base {C : Nat} (h : CpF w B ls ms) (hC : C ≤ B) : CpF w C ls ms := ⟨h.wis, fun l hl => ERow.base (h.own l hl) hC, h.sep⟩
theorem CpF.snoc (h : CpF w B ls ms) (h1 : ∃ a c, l = m.wi a c) (h2 : BRow w B (.slice l.tp l.tn l.tc) l.tx) (h3 : ∀ x ∈ ls, ∀ q, (Value.slice l.tp l.tn l.tc).ownBlock = some q → (Value.slice x.tp x.tn x.tc).ownBlock ≠ some q) : CpF w B (ls ++ [l]) (ms ++ [m]) := by
  refine ⟨h.wis.snoc h1, fun x hx => ?_, fun i j x y hij hx hy q hq => ?_⟩
  · rcases List.mem_append.1 hx with g | g
    · exact h.own x g
    · obtain rfl : x = l := by simpa using g
      exact h2
  · have hjl := (List.getElem?_eq_some_iff.1 hy).1
    simp only [List.length_append, List.length_singleton] at hjl
    rw [List.getElem?_append_left (by omega)] at hx
    by_cases hj : j < ls.length
    · rw [List.getElem?_append_left hj] at hy
      exact h.sep i j x y hij hx hy q hq
    · obtain rfl : j = ls.length := by omega
      rw [List.getElem?_append_right (Nat.le_refl _), Nat.sub_self] at hy
      simp only [List.getElem?_cons_zero, Option.some.injEq] at hy
      subst hy
      exact h3 x (List.mem_of_getElem? hx) q hq
theorem CpF.cps (h : CpF w B ls ms) : Cps w ls ms := ⟨h.wis.1, fun i l m hl hm => ⟨h.wis.2 i l m hl hm, ERow.base (h.own l (List.mem_of_getElem? hl)) (Nat.zero_le _)⟩⟩
end
/-- In the midst of List. -/
structure LsF (w : World) (g n : Nat) (ms : List Msg) (i : Nat) (wx : World) : Prop where
  ex : ∃ ls, ls.length = i ∧ ERow wx w.heap.size 91 10 encM (.slice (some ⟨g, 0, none⟩) n n) (ls ++ List.replicate (n - i) zM) ∧ CpF wx w.heap.size ls (ms.take i)
  bel : Below w.heap.size w wx
/-- List's answer: the copies ls. -/
def LtS (w : World) (ms : List Msg) (e : Ending) (w' : World) : Prop := ∃ ls a c, e = .returned (.slice a ms.length c) ∧ ERow w' w.heap.size 91 10 encM (.slice a ms.length c) ls ∧ CpF w' w.heap.size ls ms ∧ Below w.heap.size w w'
section
variable {w w' : World} {b kb : Nat} {v : Value} {sq : Bool} {tr : Int} {ms : List Msg}
set_option maxRecDepth 100000 in
set_option maxHeartbeats 4000000 in
theorem list_s (h : Bx w b kb v sq tr ms) : Calls Tryz.prog 34 #[.pointer (some ⟨b, 0, none⟩)] w (LtS w ms) := by
  have hmk := made_yes h
  have hct := count_any h.2.1
  have c0 := hcell h.1 0
  have lb := h.lt
  obtain ⟨a, c, rfl, _⟩ := h.2.1.2.1.isSlice
  obtain ⟨n, hn⟩ : ∃ n, ms.length = n := ⟨_, rfl⟩
  have q2 : n ≤ 32 := by rw [← hn]; exact h.2.1.2.2
  obtain ⟨w1, hmk1, hR, hB1⟩ := run_make_sents (w := w) n (by omega)
  have HI : Hid (LsF w w.heap.size n ms 0 w1) := ⟨⟨[], rfl, by simpa using hR, by simpa using CpF.nil _ _⟩, hB1⟩
  have HHw : Hid (Bx w b kb (.slice a n c) sq tr ms) := by rw [hn] at h; exact h
  have c1 : ∀ o, w1.cell? ⟨b, o, none⟩ = w.cell? ⟨b, o, none⟩ := fun o => hB1.cell (p := ⟨b, o, none⟩) lb
  have k1 := hcell (HHw.out.2.1.below hB1).1 1
  have lk := blk_lt (HHw.out.2.1.below hB1).1
  have HL : Hid (ms.length = n) := hn
  rw [hn] at hct
  clear hn h hR hB1
  go_enter Tryz.func34, Tryz.ntmps34
  go_wp2_with (first | (go_at_call 52; refine hmk.mono ?_; rintro _ w9 ⟨rfl, h9⟩; subst w9) | (go_at_call 53; refine hct.mono ?_; rintro _ w9 ⟨rfl, h9⟩; subst w9))
  clear hmk hct hmk1 c1 k1 lk c0 lb
  go_loopw [23] (fun t wx => ∃ i : Nat, i ≤ n ∧ t = .int .i64 i ∧ Hid (LsF w w.heap.size n ms i wx)) (fun t _ => n - (intOf t).toNat)
  case atStart => exact ⟨0, Nat.zero_le _, rfl, HI⟩
  case round =>
    obtain ⟨i, hi, rfl, HR⟩ := hrel
    by_cases hlt : i < n
    · have hlt1 : (i : Int) < n := by omega
      obtain ⟨m, hm⟩ : ∃ m, ms[i]? = some m := ⟨_, List.getElem?_eq_getElem (by rw [HL.out]; exact hlt)⟩
      have HHr : Hid (Bx wr b kb (.slice a n c) sq tr ms) := HHw.out.below HR.out.bel
      obtain ⟨g, rfl, hg, hc⟩ := erow_cells HHr.out.2.1.2.1 hm
      obtain ⟨d0, d1, d2, d3, d4, d5, d6, d7, d8, d9⟩ := hc
      have HM : Hid (ms[i]? = some m) := hm
      have htx := HHr.out.2.2 m (List.mem_of_getElem? hm)
      have hcp := fun o => copied_any m (wr.alloc o) ((htx.1.byts).below ((Below.refl _ _).alloc (Nat.le_refl _) _)) htx.1.nilcap (by have := htx.2; omega)
      clear hm htx
      go_wp2_with fail
      refine (hcp _).mono ?_
      rintro _ w5 ⟨a5, c5, rfl, hr5, hb5⟩
      have HB5 : Hid (Below w.heap.size w w5 ∧ Below wr.heap.size wr w5) := ⟨below_then (HR.out.bel.alloc HR.out.bel.size _) hb5, below_then ((Below.refl _ _).alloc (Nat.le_refl _) _) hb5⟩
      obtain ⟨ls, hls, hrow, hcps⟩ := HR.out.ex
      have hrow5 := hrow.below HB5.out.2
      have hll : (ls ++ List.replicate (n - i) zM).length = n := by simp; omega
      obtain ⟨z0, hz0⟩ : ∃ z0, (ls ++ List.replicate (n - i) zM)[i]? = some z0 := ⟨_, List.getElem?_eq_getElem (by rw [hll]; exact hlt)⟩
      obtain ⟨g', eg, hgl, hgc⟩ := erow_cells hrow5 hz0
      obtain rfl : w.heap.size = g' := by simpa using eg
      obtain ⟨e0, e1, e2, e3, e4, e5, e6, e7, e8, e9⟩ := hgc
      have hfz := ERow.thaw hrow5
      have HZ : Hid (LsF w w.heap.size n ms (i + 1) (w5.setCells w.heap.size (i * 10) (encM (m.wi a5 c5)))) := by
        have o1 : Off (fun q => q = w.heap.size) w5 (w5.setCells w.heap.size (i * 10) (encM (m.wi a5 c5))) := Off.setCells (P := fun q => q = w.heap.size) rfl _ _ _ (Off.refl _ _)
        have hset := erow_set hrow5 (m.wi a5 c5) (i := i) (by rw [hll]; exact hlt)
        have hse : (ls ++ List.replicate (n - i) zM).set i (m.wi a5 c5) = (ls ++ [m.wi a5 c5]) ++ List.replicate (n - (i + 1)) zM := by
          obtain ⟨k, hk⟩ : ∃ k, n - i = k + 1 := ⟨n - i - 1, by omega⟩
          rw [hk, List.replicate_succ, List.set_append_right _ _ (by omega), hls, Nat.sub_self, List.set_cons_zero, show n - (i + 1) = k by omega]
          simp
        have hne : ∀ v bs, BRow w5 w.heap.size v bs → ∀ q, v.ownBlock = some q → ¬ q = w.heap.size := fun v bs hv q hq e => own_ne hv hrow5 (by decide) q hq (by rw [e]; rfl)
        refine ⟨⟨ls ++ [m.wi a5 c5], by simp [hls], by rw [← hse]; exact hset, ?_⟩, HB5.out.1.trans (o1.below HB5.out.1.size (fun k hk => by omega))⟩
        rw [List.take_succ_eq_append_getElem (by rw [HL.out]; exact hlt), show ms[i]'(by rw [HL.out]; exact hlt) = m by have := HM.out; rw [List.getElem?_eq_getElem (by rw [HL.out]; exact hlt)] at this; exact Option.some.inj this]
        have hb5' : BRow w5 w.heap.size (.slice a5 m.tn c5) m.tx := ERow.base hr5 (by have := HR.out.bel.size; simp; omega)
        refine ((hcps.below HB5.out.2).off o1 fun l hl q hq => hne _ _ ((hcps.below HB5.out.2).own l hl) q hq).snoc ⟨a5, c5, rfl⟩ (ERow.off hb5' o1 fun q hq => hne _ _ hb5' q hq) fun l hl q hq hq' => ?_
        have h1 := (ERow.lt (hcps.own l hl) hq').2
        have h2 := (ERow.lt hr5 hq).1
        simp at h2
        omega
      clear hcp hr5 hb5 hls hrow hcps hrow5 hll hz0 eg d0 d1 d2 d3 d4 d5 d6 d7 d8 d9
      go_wp2_with fail
      go_roundw
      case rel => exact ⟨i + 1, hlt, by go_num, HZ⟩
      case measure => simp [intOf]; omega
    · have hlt1 : ¬ (i : Int) < n := by omega
      have hin : i = n := by omega
      have HZ : Hid (∃ ls, ERow wr w.heap.size 91 10 encM (.slice (some ⟨w.heap.size, 0, none⟩) n n) ls ∧ CpF wr w.heap.size ls ms) := by
        obtain ⟨ls, hls, hrow, hcps⟩ := HR.out.ex
        rw [List.take_of_length_le (by rw [HL.out]; omega)] at hcps
        rw [hin, Nat.sub_self, List.replicate_zero, List.append_nil] at hrow
        exact ⟨ls, hrow, hcps⟩
      clear hin
      go_wp2_with fail
      go_ret
      obtain ⟨ls, hrow, hcps⟩ := HZ.out
      exact ⟨ls, some ⟨w.heap.size, 0, none⟩, n, by rw [HL.out]; rfl, by rw [HL.out]; exact hrow, hcps, HR.out.bel⟩
/-- In the midst of All. -/
structure RaF (w : World) (ms : List Msg) (i : Nat) (v : Value) (wx : World) : Prop where
  ex : ∃ ls, ERow wx w.heap.size 91 10 encM v ls ∧ CpF wx w.heap.size ls (ms.take i)
  bel : Below w.heap.size w wx
section
variable {r : Nat} {L : Value} {B i : Nat} {wx z : World} {m : Msg}
theorem RaF.push (h : RaF w ms i v wx) (hm : ms[i]? = some m) (hl : ms.length ≤ 32) (hb : Below wx.heap.size wx z) {a : Option Addr} {c : Nat} (hr : BRow z wx.heap.size (.slice a m.tn c) m.tx) :
    ∃ a2 n2 c2 W2, (Builtin.append_ #[97, 97] 97 #[v, .slice (some ⟨z.heap.size, 0, none⟩) 1 1]).run Tryz.prog (z.alloc (.cells #[.string m.ct, .slice a m.tn c, .bool m.e, .int .i64 m.a, .int .i64 m.p, .int .i64 m.nu, .bool m.nt, .int .i64 m.st, .int .i64 m.lf, .bool m.un] 91)) = .ok (.slice a2 n2 c2) W2 ∧ Hid (RaF w ms (i + 1) (.slice a2 n2 c2) W2) := by
  obtain ⟨ls, h1, h2⟩ := h.ex
  have hil := (List.getElem?_eq_some_iff.1 hm).1
  have hln : ls.length = i := by rw [h2.wis.1, List.length_take]; omega
  have hB := h.bel.size
  have h1' := ERow.below h1 hb
  have h2' := h2.below hb
  obtain ⟨a2, c2, W2, hr2, r2, o2, s2⟩ := run_epush (P := Tryz.prog) (t := 97) Tryz.underlying97 celS encM_len encM_one (w := z) h1' (m.wi a c) #[.string m.ct, .slice a m.tn c, .bool m.e, .int .i64 m.a, .int .i64 m.p, .int .i64 m.nu, .bool m.nt, .int .i64 m.st, .int .i64 m.lf, .bool m.un] rfl (by omega) (by decide) (Nat.le_trans hB hb.size)
  have hne : ∀ u bs, BRow z 0 u bs → ∀ q, u.ownBlock = some q → ¬ v.ownBlock = some q := fun u bs hu q hq => own_ne hu h1' (by decide) q hq
  refine ⟨a2, _, c2, W2, hr2, ⟨_, r2, ?_⟩, ?_⟩
  · rw [List.take_add_one, hm]
    refine (h2'.off o2 fun l hl q hq => hne _ _ (ERow.base (h2'.own l hl) (Nat.zero_le _)) q hq).snoc ⟨a, c, rfl⟩ (ERow.off (ERow.base hr hB) o2 fun q hq => hne _ _ (ERow.base hr (Nat.zero_le _)) q hq) fun l hl q hq hq' => ?_
    have g1 := (ERow.lt (h2.own l hl) hq').2
    have g2 := (ERow.lt hr hq).1
    omega
  · exact (below_then h.bel hb).trans (o2.below (Nat.le_trans hB hb.size) fun q hq => (ERow.lt h1' hq).1)
set_option maxRecDepth 100000 in
set_option maxHeartbeats 4000000 in
theorem rAll_any (h : RB w B r L sq tr ms) : Calls Tryz.prog 35 #[.pointer (some ⟨r, 0, none⟩)] w (LtS w ms) := by
  obtain ⟨a, c, e1, _⟩ := ERow.isSlice h.row
  subst e1
  obtain ⟨n, hn⟩ : ∃ n, ms.length = n := ⟨_, rfl⟩
  have HH : Hid (RB w B r (.slice a n c) sq tr ms ∧ ms.length = n) := ⟨by have := h; rw [hn] at this; exact this, hn⟩
  have hn32 : (n : Int) ≤ 1000 := by have := h.len; omega
  have HS : Hid (RaF w ms 0 (.slice none 0 0) w) := ⟨⟨[], ERow.nil _ _ _ _ _, by simpa using CpF.nil _ _⟩, Below.refl _ _⟩
  clear h hn
  go_enter Tryz.func35, Tryz.ntmps35
  go_wp2_with fail
  go_loopw [3, 4] (fun t3 t4 wx => ∃ i : Nat, i ≤ n ∧ t4 = .int .i64 (i : Int) ∧ (∃ a2 n2 c2, t3 = .slice a2 n2 c2) ∧ Hid (RaF w ms i t3 wx)) (fun _ t4 _ => n - (intOf t4).toNat)
  case atStart => exact ⟨0, Nat.zero_le _, rfl, ⟨_, _, _, rfl⟩, HS⟩
  case round =>
    clear HS
    obtain ⟨i, hi, rfl, ⟨a2, n2, c2, rfl⟩, HI⟩ := hrel
    have hr := HH.out.1.below HI.out.bel
    have c0 := hcell hr.blk 0
    have lr := hr.lt
    by_cases hlt : i < n
    · have hlt1 : (i : Int) < n := by omega
      obtain ⟨m, hm⟩ : ∃ m, ms[i]? = some m := ⟨_, List.getElem?_eq_getElem (by rw [HH.out.2]; exact hlt)⟩
      obtain ⟨g, rfl, hg, hc⟩ := erow_cells hr.row hm
      obtain ⟨d0, d1, d2, d3, d4, d5, d6, d7, d8, d9⟩ := hc
      have hd := rownSent_any m wr (hr.own m (List.mem_of_getElem? hm)).1.byts (by have := (hr.own m (List.mem_of_getElem? hm)).2; omega)
      have HM : Hid (ms[i]? = some m ∧ ms.length ≤ 32) := ⟨hm, hr.len⟩
      clear hm hr
      go_wp2_with fail
      refine hd.mono ?_
      rintro _ w1 ⟨a1, c1, rfl, ho, hb⟩
      obtain ⟨a3, n3, c3, W3, hap, HZ⟩ := HI.out.push HM.out.1 HM.out.2 hb ho
      clear hd ho hb d0 d1 d2 d3 d4 d5 d6 d7 d8 d9 c0 HI
      go_wp2_with (at_builtin; refine wpList_append_run rfl (.tmp 18) (.tmp 27) 97 _ rfl hap ?_)
      go_roundw
      case rel => exact ⟨i + 1, hlt, by go_num, ⟨_, _, _, rfl⟩, HZ⟩
      case measure => simp [intOf]; omega
    · have hlt1 : ¬ (i : Int) < n := by omega
      obtain rfl : i = n := by omega
      have HZ : Hid (∃ ls c4, n2 = i ∧ ERow wr w.heap.size 91 10 encM (.slice a2 i c4) ls ∧ CpF wr w.heap.size ls ms ∧ c4 = c2) := by
        obtain ⟨ls, h1, h2⟩ := HI.out.ex
        rw [List.take_of_length_le (by rw [HH.out.2]; exact Nat.le_refl _)] at h2
        have e : n2 = i := by rw [ERow.len h1, h2.wis.1]; exact HH.out.2
        exact ⟨ls, c2, e, by rw [← e]; exact h1, h2, rfl⟩
      clear hr
      go_wp2_with fail
      go_ret
      obtain ⟨ls, c4, e, h1, h2, e2⟩ := HZ.out
      subst e2
      exact ⟨ls, a2, c4, by rw [HH.out.2, e]; rfl, by rw [HH.out.2]; exact h1, h2, HI.out.bel⟩
end
end
end Go.Proofs.YtoijhecphgdfnaaGreatDoor

/-
  The document's box: Go.
-/
namespace Go.Proofs.YtoijhecphgdfnaaGreatDoor
open Go.RowKit

theorem donS_set (ms : List Msg) (i : Nat) (y m : Msg) (x : Int) (l : ActL) : donS (ms.set i y) i m x l = donS ms i m x l := by
  unfold donS
  rw [List.eraseIdx_set_eq, List.set_set]
/-- A call that answers deeds and a number. -/
def RCaQ (w : World) (B r : Nat) (L : Value) (sq : Bool) (tr : Int) (ms' : List Msg) (ds : List Deed) (cd : Int) (e : Ending) (w' : World) : Prop := ∃ a c, e = .returned (.tuple #[.slice a ds.length c, .int .i64 cd]) ∧ Hid (DRow w' w.heap.size (.slice a ds.length c) ds ∧ RBQ w B r L sq tr ms' w')
section
variable {w w' : World} {B r : Nat} {L : Value} {sq : Bool} {tr : Int} {ms : List Msg}
theorem rca_no (h : RB w B r L sq tr ms) (cd : Int) : RCaQ w B r L sq tr ms [] cd (.returned (.tuple #[.slice none 0 0, .int .i64 cd])) w := ⟨none, 0, rfl, ERow.nil _ _ _ _ _, RBQ.refl h⟩
set_option maxRecDepth 100000 in
set_option maxHeartbeats 4000000 in
theorem rGo_no (h : RB w B r L sq tr ms) (hn : nxI sq ms = none ∨ (sq = true ∧ ∃ i m, nxI sq ms = some i ∧ ms[i]? = some m ∧ m.nu = 0)) : Calls Tryz.prog 24 #[.pointer (some ⟨r, 0, none⟩)] w (RCaQ w B r L sq tr ms [] 281) := by
  have hx := rnext_any h
  have HZ : Hid (RCaQ w B r L sq tr ms [] 281 (.returned (.tuple #[.slice none 0 0, .int .i64 281])) w) := rca_no h 281
  rcases hn with hn | ⟨rfl, i, m, hn, hm, h0⟩
  · rw [show nxZ sq ms = -1 by unfold nxZ; rw [hn]] at hx
    clear h hn
    go_enter Tryz.func24, Tryz.ntmps24
    go_wp2_with (go_at_call 56; refine hx.mono ?_; rintro _ w9 ⟨rfl, h9⟩; subst w9)
    go_ret2
    exact HZ.out
  · rw [show nxZ true ms = (i : Int) by unfold nxZ; rw [hn]] at hx
    obtain ⟨a, c, e1, _⟩ := ERow.isSlice h.row
    subst e1
    obtain ⟨n, hnn⟩ : ∃ n, ms.length = n := ⟨_, rfl⟩
    have c0 := hcell h.blk 0
    have c1 := hcell h.blk 1
    have hi : i < n := by rw [← hnn]; exact (List.getElem?_eq_some_iff.1 hm).1
    rw [hnn] at c0 HZ ⊢
    have hi1 : (i : Int) < n := by omega
    obtain ⟨g, rfl, hg, hc⟩ := erow_cells h.row hm
    have d5 := hc.c5
    rw [h0] at d5
    clear h hn hm hnn hc
    go_enter Tryz.func24, Tryz.ntmps24
    go_wp2_with (go_at_call 56; refine hx.mono ?_; rintro _ w9 ⟨rfl, h9⟩; subst w9)
    go_ret2
    exact HZ.out
set_option maxRecDepth 100000 in
set_option maxHeartbeats 8000000 in
theorem rGo_yes (h : RB w B r L sq tr ms) {i : Nat} {m : Msg} (hn : nxI sq ms = some i) (hm : ms[i]? = some m) (hq : (sq && (m.nu == 0)) = false) : Calls Tryz.prog 24 #[.pointer (some ⟨r, 0, none⟩)] w (RCaQ w B r L sq tr (donS ms i { m with st := (startS m.e m.a m.p tr m.nt).st, lf := (startS m.e m.a m.p tr m.nt).lf, un := true } 0 (startS m.e m.a m.p tr m.nt).l) (deedsS m.ct (startS m.e m.a m.p tr m.nt).l) 0) := by
  have hx := rnext_any h
  rw [show nxZ sq ms = (i : Int) by unfold nxZ; rw [hn]] at hx
  have hS : ∀ z, Below w.heap.size w z → Calls Tryz.prog 61 #[.agg #[.bool m.e, .int .i64 m.a, .int .i64 m.p], .int .i64 tr, .bool m.nt] z (AnsQ4 (startS m.e m.a m.p tr m.nt) z) := fun z _ => rStart_any m.e m.a m.p tr m.nt z
  obtain ⟨x, hxx⟩ : ∃ x, startS m.e m.a m.p tr m.nt = x := ⟨_, rfl⟩
  have HLx : Hid (x.l.length ≤ 1000) := by
    unfold Hid
    rw [← hxx]
    unfold startS
    repeat' split
    all_goals (show List.length _ ≤ 1000; simp)
  rw [hxx] at hS ⊢
  obtain ⟨st, lf, l, at_, cn⟩ := x
  obtain ⟨a, c, e1, _⟩ := ERow.isSlice h.row
  subst e1
  obtain ⟨n, hnn⟩ : ∃ n, ms.length = n := ⟨_, rfl⟩
  have c0 := hcell h.blk 0
  have c1 := hcell h.blk 1
  have c2 := hcell h.blk 2
  have hi : i < n := by rw [← hnn]; exact (List.getElem?_eq_some_iff.1 hm).1
  have HH : Hid (RB w B r (.slice a n c) sq tr ms ∧ ms[i]? = some m) := ⟨by have := h; rw [hnn] at this; exact this, hm⟩
  rw [hnn] at c0 ⊢
  have hi1 : (i : Int) < n := by omega
  have hn32 : (n : Int) ≤ 1000 := by have := h.len; omega
  obtain ⟨g, rfl, hg, hc⟩ := erow_cells h.row hm
  obtain ⟨d0, d1, d2, d3, d4, d5, d6, d7, d8, d9⟩ := hc
  have lr := h.lt
  have HS : Hid (∀ z, Below w.heap.size w z → Calls Tryz.prog 61 #[.agg #[.bool m.e, .int .i64 m.a, .int .i64 m.p], .int .i64 tr, .bool m.nt] z fun e z' => ∃ aa ca, e = .returned (.tuple #[.agg #[.int .i64 st, .int .i64 lf], .slice aa l.length ca, .int .i64 at_, .int .i64 cn]) ∧ Hid (ActRow z' z.heap.size (.slice aa l.length ca) l ∧ Below z.heap.size z z') ∧ Hid (Below w.heap.size w z')) := fun z hz => (hS z hz).mono fun e z' ⟨lv, q1, q2, q3⟩ => by
    obtain ⟨aa, ca, e2, _⟩ := ActRow.isSlice q2
    subst e2
    exact ⟨aa, ca, q1, ⟨q2, q3⟩, below_then hz q3⟩
  clear h hn hm hnn hxx hS
  have key : ∃ b, (m.nu == 0) = b := ⟨_, rfl⟩
  obtain ⟨b5, hb5⟩ := key
  rw [hb5] at hq
  go_enter Tryz.func24, Tryz.ntmps24
  go_upto_region 4 with (go_at_call 56; refine hx.mono ?_; rintro _ w9 ⟨rfl, h9⟩; subst w9)
  go_cut [32] (fun t32 wx => t32 = .bool false ∧ wx = w)
  case first =>
    clear HH HLx hx HS d0 d1 d2 d3 d4 d6 d7 d8 d9 c2
    cases sq <;> cases b5
    all_goals first
      | (exfalso; revert hq; decide)
      | (go_wp2_with fail
         go_meet
         exact ⟨rfl, rfl⟩)
  case rest =>
  obtain ⟨rfl, hw⟩ := hcut
  rw [hw]
  clear hw hx hb5 hq d5
  go_upto_region 6 with fail
  go_cut [5, 6] (fun t5 t6 wx => ∃ wb aa ca, t5 = .pointer (some ⟨wb, 0, none⟩) ∧ t6 = .slice aa l.length ca ∧ Hid (Box wx wb #[.int .i64 st, .int .i64 lf] ∧ w.heap.size ≤ wb ∧ ActRow wx w.heap.size (.slice aa l.length ca) l ∧ Below w.heap.size w wx))
  case first =>
    clear HH HLx
    have HX : Hid (∀ w1 aa ca, ActRow w1 (w.alloc (.cells #[.int .i64 0, .int .i64 0] 89)).drew.heap.size (.slice aa l.length ca) l → Below (w.alloc (.cells #[.int .i64 0, .int .i64 0] 89)).drew.heap.size (w.alloc (.cells #[.int .i64 0, .int .i64 0] 89)).drew w1 → (w1.cell? ⟨w.heap.size, 0, none⟩ = some (.int .i64 0) ∧ w1.cell? ⟨w.heap.size, 1, none⟩ = some (.int .i64 0) ∧ w1.frozen? ⟨w.heap.size, 0, none⟩ = false ∧ w1.frozen? ⟨w.heap.size, 1, none⟩ = false) ∧ Hid (Box ((w1.setCell ⟨w.heap.size, 0, none⟩ (.int .i64 st)).setCell ⟨w.heap.size, 1, none⟩ (.int .i64 lf)) w.heap.size #[.int .i64 st, .int .i64 lf] ∧ w.heap.size ≤ w.heap.size ∧ ActRow ((w1.setCell ⟨w.heap.size, 0, none⟩ (.int .i64 st)).setCell ⟨w.heap.size, 1, none⟩ (.int .i64 lf)) w.heap.size (.slice aa l.length ca) l ∧ Below w.heap.size w ((w1.setCell ⟨w.heap.size, 0, none⟩ (.int .i64 st)).setCell ⟨w.heap.size, 1, none⟩ (.int .i64 lf)))) := fun w1 aa ca q2 q3 => by
      have bx := ((Box.new w #[.int .i64 0, .int .i64 0] 89).drew).below q3
      have b0 : Below w.heap.size w (w.alloc (.cells #[.int .i64 0, .int .i64 0] 89)).drew := ((Below.refl _ _).alloc (Nat.le_refl _) _).drew
      have hb := below_then b0 q3
      refine ⟨⟨bx.cell 0, bx.cell 1, bx.free 0, bx.free 1⟩, ?_, Nat.le_refl _, ?_, ?_⟩
      · have := (bx.pPut (j := 0) (by simp) (.int .i64 st)).pPut (j := 1) (by simp) (.int .i64 lf)
        simpa using this
      · have hne : ∀ g, (Value.slice aa l.length ca).ownBlock = some g → g ≠ w.heap.size := fun g hg => by
          have h1 := q2.ne hg
          simp at h1
          omega
        exact ((q2.set (p := ⟨w.heap.size, 0, none⟩) hne).set (p := ⟨w.heap.size, 1, none⟩) hne).mono b0.size
      · exact (hb.setCell (p := ⟨w.heap.size, 0, none⟩) (Nat.le_refl _) _).setCell (p := ⟨w.heap.size, 1, none⟩) (Nat.le_refl _) _
    have gs : ∀ {z : World}, Below w.heap.size w z → z.cell? ⟨r, 0, none⟩ = some (.slice (some ⟨g, 0, none⟩) n c) ∧ z.cell? ⟨r, 2, none⟩ = some (.int .i64 tr) ∧ z.cell? ⟨g, i * 10 + 2, none⟩ = some (.bool m.e) ∧ z.cell? ⟨g, i * 10 + 3, none⟩ = some (.int .i64 m.a) ∧ z.cell? ⟨g, i * 10 + 4, none⟩ = some (.int .i64 m.p) ∧ z.cell? ⟨g, i * 10 + 6, none⟩ = some (.bool m.nt) := fun {z} hz => ⟨(hz.cell (p := ⟨r, 0, none⟩) lr).trans c0, (hz.cell (p := ⟨r, 2, none⟩) lr).trans c2, (hz.cell (p := ⟨g, i * 10 + 2, none⟩) hg).trans d2, (hz.cell (p := ⟨g, i * 10 + 3, none⟩) hg).trans d3, (hz.cell (p := ⟨g, i * 10 + 4, none⟩) hg).trans d4, (hz.cell (p := ⟨g, i * 10 + 6, none⟩) hg).trans d6⟩
    clear d0 d1 d7 d8 d9 c1
    go_region_held3 (fun z => z.cell? ⟨r, 0, none⟩ = some (.slice (some ⟨g, 0, none⟩) n c) ∧ z.cell? ⟨r, 2, none⟩ = some (.int .i64 tr) ∧ z.cell? ⟨g, i * 10 + 2, none⟩ = some (.bool m.e) ∧ z.cell? ⟨g, i * 10 + 3, none⟩ = some (.int .i64 m.a) ∧ z.cell? ⟨g, i * 10 + 4, none⟩ = some (.int .i64 m.p) ∧ z.cell? ⟨g, i * 10 + 6, none⟩ = some (.bool m.nt)) ((refine gs ?_; (repeat' (first | (with_reducible exact Below.refl _ _) | (with_reducible exact Hid.out (by assumption)) | (with_reducible refine Below.drew ?_) | (refine Below.alloc ?_ (by first | exact Nat.le_refl _ | exact (Hid.out (by assumption : Hid (Below w.heap.size w _))).size) _) | (refine Below.setCell ?_ (by first | exact Nat.le_refl _ | exact (Hid.out (by assumption : Hid (Below w.heap.size w _))).size) _))))) ((go_at_call 61; refine (HS.out _ ?_).mono ?_; (repeat' (first | (with_reducible exact Below.refl _ _) | (with_reducible refine Below.drew ?_) | (with_reducible refine Below.alloc ?_ (Nat.le_refl _) _))); rintro _ w1 ⟨aa, ca, rfl, H1, H1b⟩; (first | (obtain ⟨⟨z0, z1, z2, z3⟩, HX2⟩ := HX.out _ _ _ H1.out.1 H1.out.2) | skip)))
    all_goals
      go_wp2_with fail
      go_meet
      first | exact ⟨_, _, _, rfl, rfl, HX2⟩ | exact ⟨_, _, _, rfl, rfl, Box.new _ _ _, H1b.out.size, ActRow.below (H1.out.1.mono (Nat.le_refl _)) ((Below.refl _ _).alloc (Nat.le_refl _) _), H1b.out.alloc H1b.out.size _⟩
  case rest =>
    obtain ⟨W1, rfl⟩ : ∃ U, U = wc := ⟨_, rfl⟩
    obtain ⟨wb, aa, ca, rfl, rfl, HW⟩ := hcut
    clear c0 c1 c2 d0 d1 d2 d3 d4 d6 d7 d8 d9 lr HS hg
    have h1 := HH.out.1.below HW.out.2.2.2
    have c0 := hcell h1.blk 0
    have lr := h1.lt
    obtain ⟨g', e, hg, hc⟩ := erow_cells h1.row HH.out.2
    simp only [Option.some.injEq, Addr.mk.injEq, and_true] at e
    subst e
    have d9 := hc.c9
    obtain ⟨cs, hgc⟩ := msrow_type h1.row (g := g) rfl
    have f9 := hfroz hgc (i * 10 + 9)
    have hne : ¬ wb = g := fun e => by
      have hgl := (ERow.lt HH.out.1.row (g := g) rfl).2
      have := HW.out.2.1
      omega
    have k0 := HW.out.1.cell 0
    have k1 := HW.out.1.cell 1
    have o9 : Off (fun q => q = g) W1 (W1.setCell ⟨g, i * 10 + 9, none⟩ (.bool true)) := Off.setCell (P := fun q => q = g) (Off.refl _ _) (p := ⟨g, i * 10 + 9, none⟩) rfl _
    have h2 := h1.set (q := 9) (u := .bool true) (m' := { m with un := true }) HH.out.2 (by decide) rfl ⟨rfl, rfl, rfl, rfl⟩
    have ha2 := actrow_off HW.out.2.2.1 o9 fun q hq e => by
      obtain ⟨cs', hc'⟩ := actrow_type HW.out.2.2.1 hq
      rw [e, hgc] at hc'
      simp at hc'
    have hms : i < ms.length := (List.getElem?_eq_some_iff.1 HH.out.2).1
    have hdn := rdone_any h2 (List.getElem?_set_self hms) st lf 0 ha2 HLx.out
    rw [donS_set] at hdn
    have HO : Hid (w.heap.size ≤ W1.heap.size ∧ Off (fun q => q = r ∨ (Value.slice (some ⟨g, 0, none⟩) n c).ownBlock = some q) w (W1.setCell ⟨g, i * 10 + 9, none⟩ (.bool true))) := ⟨HW.out.2.2.2.size, (Off.of_below HW.out.2.2.2).trans (o9.mono fun q e => Or.inr (by rw [e]; rfl))⟩
    clear h1 hc hgc h2 ha2 o9 HH HW hms
    go_wp2_with fail
    refine hdn.mono ?_
    rintro _ w3 ⟨a3, c3, rfl, H3⟩
    have HZ : Hid (RCaQ w B r (.slice (some ⟨g, 0, none⟩) n c) sq tr (donS ms i { m with st := st, lf := lf, un := true } 0 l) (deedsS m.ct l) 0 (.returned (.tuple #[.slice a3 (deedsS m.ct l).length c3, .int .i64 0])) w3) := by
      have hs : w.heap.size ≤ (W1.setCell ⟨g, i * 10 + 9, none⟩ (.bool true)).heap.size := HO.out.2.size
      exact ⟨a3, c3, rfl, ERow.base H3.out.1 hs, RBQ.trans HO.out.2 (fun q e => Or.inl e) H3.out.2⟩
    clear hdn H3 HO k0 k1 c0 d9 f9
    go_wp2_with fail
    go_ret2
    exact HZ.out
end
end Go.Proofs.YtoijhecphgdfnaaGreatDoor
