/-
  Decide.
-/
import Derived.Test.YtplhdgijjckjcaaGreatDoorIbAcc
namespace Go.Proofs.YtplhdgijjckjcaaGreatDoor
open Go.RowKit

/-- Decide's answer. -/
def decC (es : List Ent) (s cd : ByteArray) (n : Nat) : Int :=
  if vdB cd = false then 302 else if 2048 < n then 4 else match fi s es with | none => 11 | some i => if dcB (es.getD i zE) = true then 6 else 0
theorem decC_zero {es : List Ent} {s cd : ByteArray} {n : Nat} (h : decC es s cd n = 0) : vdB cd = true ∧ n ≤ 2048 ∧ ∃ i x, fi s es = some i ∧ es[i]? = some x ∧ opB x = true := by
  unfold decC at h
  split at h
  · cases h
  · rename_i h1
    split at h
    · cases h
    · rename_i h2
      refine ⟨by simpa using h1, by omega, ?_⟩
      cases hf : fi s es with
      | none => rw [hf] at h; cases h
      | some i =>
        rw [hf] at h
        obtain ⟨x, hx, _⟩ := fi_some hf
        simp only at h
        rw [List.getD_eq_getElem?_getD, hx] at h
        simp only [Option.getD_some] at h
        split at h
        · cases h
        · rename_i h3
          exact ⟨i, x, rfl, hx, by unfold opB; unfold dcB at h3; simpa using h3⟩
theorem srt_le {es : List Ent} (h : Srt es) : ∀ (d i : Nat) (x y : Ent), es[i]? = some x → es[i + d]? = some y → x.tk ≤ y.tk
  | 0, i, x, y, hx, hy => by
    rw [Nat.add_zero, hx] at hy
    cases hy
    exact Int.le_refl _
  | d + 1, i, x, y, hx, hy => by
    have hl := (List.getElem?_eq_some_iff.1 hy).1
    obtain ⟨z, hz⟩ : ∃ z, es[i + d]? = some z := ⟨_, List.getElem?_eq_getElem (by omega)⟩
    exact Int.le_trans (srt_le h d i x z hx hz) (h (i + d) z y hz hy)
theorem srt_erase {es : List Ent} (h : Srt es) (k : Nat) : Srt (es.eraseIdx k) := fun i x y hx hy => by
  rw [List.getElem?_eraseIdx] at hx hy
  split at hx <;> split at hy
  · exact h i x y hx hy
  · exact srt_le h 2 i x y hx hy
  · omega
  · exact h (i + 1) x y hx hy
theorem srt_set {es : List Ent} (h : Srt es) {i : Nat} {x y : Ent} (hx : es[i]? = some x) (hy : y.tk = x.tk) : Srt (es.set i y) := fun j p q hp hq => by
  have key : ∀ (a : Nat) (p : Ent), (es.set i y)[a]? = some p → ∃ p' : Ent, es[a]? = some p' ∧ p'.tk = p.tk := fun a p hp => by
    by_cases ha : i = a
    · subst ha
      rw [List.getElem?_set_self (List.getElem?_eq_some_iff.1 hx).1] at hp
      cases hp
      exact ⟨x, hx, hy.symm⟩
    · rw [List.getElem?_set_ne ha] at hp
      exact ⟨p, hp, rfl⟩
  obtain ⟨p', h1, h2⟩ := key j p hp
  obtain ⟨q', g1, g2⟩ := key (j + 1) q hq
  rw [← h2, ← g2]
  exact h j p' q' h1 g1
theorem inv_shed {K R : Int} {es : List Ent} (h : Inv K R es) {i : Nat} {x y : Ent} (hx : es[i]? = some x) (ho : opB x = true) (hd : opB y = false) (ht : y.tk = x.tk) : Inv K R (shedS K (es.set i y)) := by
  have h1 := nOp_set hx ho hd
  have h2 := nOp_add es
  have h3 := nOp_add (es.set i y)
  rw [List.length_set] at h3
  have h4 := h.op
  have h5 := h.dc
  have h6 := srt_set h.srt hx ht
  unfold shedS
  cases hm : manyB K (es.set i y) with
  | false =>
    unfold manyB at hm
    have hm := of_decide_eq_false hm
    exact ⟨h.k1, h.k2, h.r1, h.r2, by simp; omega, by simp; omega, by simpa using h6⟩
  | true =>
    obtain ⟨j, z, hf, hz, hdz⟩ := many_fd (by have := h.k1; omega) hm
    rw [hf]
    have hn := nOp_erase hz hdz
    have h7 := nOp_add ((es.set i y).eraseIdx j)
    have hjl := (List.getElem?_eq_some_iff.1 hz).1
    rw [List.length_eraseIdx, if_pos hjl, List.length_set] at h7
    rw [List.length_set] at hjl
    exact ⟨h.k1, h.k2, h.r1, h.r2, by simp; omega, by simp; omega, by simpa using srt_erase h6 j⟩
theorem mem_shed {K : Int} {es : List Ent} {e : Ent} (h : e ∈ shedS K es) : e ∈ es := by
  unfold shedS at h
  split at h
  · split at h
    · exact List.mem_of_mem_eraseIdx h
    · exact h
  · exact h
section
variable {w w' : World} {B b sb M : Nat} {v : Value} {K R : Int} {es : List Ent}
set_option maxRecDepth 100000 in
set_option maxHeartbeats 4000000 in
theorem dec_no (h : Bx w B b sb M v K R es) {s cd : ByteArray} {p : Option Addr} {n c : Nat} (hk : KeyS s) (hn : n ≤ 9223372036854775807) {z : Int} (hz : decC es s cd n = z) (h0 : z ≠ 0) : Calls Tryz.prog 26 #[.pointer (some ⟨b, 0, none⟩), .string s, .string cd, .slice p n c] w fun r w' => ∃ ev, r = .returned (.tuple #[.slice none 0 0, .iface 98 (.pointer (some ⟨ev, 0, none⟩))]) ∧ IFault w' ev 0 z ∧ w.heap.size ≤ ev ∧ Below w.heap.size w w' := by
  have hmk := made_yes h
  have hvd := isVerdict_any cd w
  have c0 := hcell h.blk 0
  have k2 := h.sh.cells.2.2.1
  have k3 := h.sh.cells.2.2.2.1
  cases hv : vdB cd with
  | false =>
    rw [hv] at hvd
    obtain rfl : 302 = z := by rw [← hz]; unfold decC; rw [hv]; rfl
    have hft := fault_any 0 302 w
    clear hv hz h0 h c0 k2 k3
    go_enter Tryz.func26, Tryz.ntmps26
    go_wp2_with (first | (go_at_call 51; refine hmk.mono ?_; rintro _ w9 ⟨rfl, h9⟩; subst w9) | (go_at_call 59; refine hvd.mono ?_; rintro _ w9 ⟨rfl, h9⟩; subst w9))
    refine hft.mono ?_
    rintro _ w2 ⟨rfl, hf2, hb2⟩
    have HF : Hid (IFault w2 w.heap.size 0 302 ∧ Below w.heap.size w w2) := ⟨hf2, hb2⟩
    clear hft hb2 hf2 hmk hvd
    go_wp2_with fail
    go_ret2
    exact ⟨w.heap.size, rfl, HF.out.1, Nat.le_refl _, HF.out.2⟩
  | true =>
    rw [hv] at hvd
    by_cases hl : 2048 < n
    · obtain rfl : 4 = z := by rw [← hz]; unfold decC; rw [hv, if_pos hl]; rfl
      have hft := fault_any 0 4 w
      have q1 : (n : Int) > 2048 := by omega
      clear hv hz h0 h c0 k2 k3 hl
      go_enter Tryz.func26, Tryz.ntmps26
      go_wp2_with (first | (go_at_call 51; refine hmk.mono ?_; rintro _ w9 ⟨rfl, h9⟩; subst w9) | (go_at_call 59; refine hvd.mono ?_; rintro _ w9 ⟨rfl, h9⟩; subst w9))
      refine hft.mono ?_
      rintro _ w2 ⟨rfl, hf2, hb2⟩
      have HF : Hid (IFault w2 w.heap.size 0 4 ∧ Below w.heap.size w w2) := ⟨hf2, hb2⟩
      clear hft hb2 hf2 hmk hvd
      go_wp2_with fail
      go_ret2
      exact ⟨w.heap.size, rfl, HF.out.1, Nat.le_refl _, HF.out.2⟩
    · have q1 : ¬ (n : Int) > 2048 := by omega
      cases hf : fi s es with
      | none =>
        have hlk := h.sh.map.look_no hk hf
        obtain rfl : 11 = z := by rw [← hz]; unfold decC; rw [hv, if_neg hl, hf]; rfl
        have hft := fault_any 0 11 w
        clear hv hz h0 h hl hf
        go_enter Tryz.func26, Tryz.ntmps26
        go_wp2_with (first | (go_at_call 51; refine hmk.mono ?_; rintro _ w9 ⟨rfl, h9⟩; subst w9) | (go_at_call 59; refine hvd.mono ?_; rintro _ w9 ⟨rfl, h9⟩; subst w9))
        refine hft.mono ?_
        rintro _ w2 ⟨rfl, hf2, hb2⟩
        have HF : Hid (IFault w2 w.heap.size 0 11 ∧ Below w.heap.size w w2) := ⟨hf2, hb2⟩
        clear hft hb2 hf2 hmk hvd hlk
        go_wp2_with fail
        go_ret2
        exact ⟨w.heap.size, rfl, HF.out.1, Nat.le_refl _, HF.out.2⟩
      | some i =>
        have hlk := h.sh.map.look_yes hk hf
        obtain ⟨x, hx, _⟩ := fi_some hf
        have hil := (List.getElem?_eq_some_iff.1 hx).1
        have hdx : dcB x = true ∧ z = 6 := by
          rw [← hz]
          unfold decC
          rw [hv, if_neg hl, hf]
          simp only [List.getD_eq_getElem?_getD, hx, Option.getD_some]
          cases hd : dcB x with
          | true => exact ⟨rfl, rfl⟩
          | false =>
            exfalso
            apply h0
            rw [← hz]
            unfold decC
            rw [hv, if_neg hl, hf]
            simp only [List.getD_eq_getElem?_getD, hx, Option.getD_some, hd]
            rfl
        obtain ⟨hd, rfl⟩ := hdx
        obtain ⟨a, cc, hvv, _⟩ := h.sh.row.isSlice
        obtain ⟨m, hm⟩ : ∃ m, es.length = m := ⟨_, rfl⟩
        have hrow := h.sh.row
        rw [hvv, hm] at hrow k2
        rw [hm] at hil
        obtain ⟨g, rfl, hg, hc⟩ := nrow_cells hrow hx
        obtain ⟨d0, d1, d2, d3, d4, d5, d6⟩ := hc
        have q2 : (i : Int) < m := by omega
        have hdc := isDecided_any x w
        rw [hd] at hdc
        clear hv hz h0 h hl hf hx hd hvv hm hrow hg
        go_enter Tryz.func26, Tryz.ntmps26
        go_wp2_with (first | (go_at_call 51; refine hmk.mono ?_; rintro _ w9 ⟨rfl, h9⟩; subst w9) | (go_at_call 59; refine hvd.mono ?_; rintro _ w9 ⟨rfl, h9⟩; subst w9))
        refine hdc.mono ?_
        rintro _ w1 ⟨rfl, hb1⟩
        have HB1 : Hid (Below w.heap.size w w1) := hb1
        have hft := fault_any 0 6 w1
        clear hdc hb1 d0 d1 d2 d3 d4 d5 d6 c0 k2 k3 hlk hmk hvd
        go_wp2_with fail
        refine hft.mono ?_
        rintro _ w2 ⟨rfl, hf2, hb2⟩
        have HF : Hid (IFault w2 w1.heap.size 0 6 ∧ Below w.heap.size w w2) := ⟨hf2, below_then HB1.out hb2⟩
        clear hft hb2 hf2
        go_wp2_with fail
        go_ret2
        exact ⟨w1.heap.size, rfl, HF.out.1, HB1.out.size, HF.out.2⟩
/-- What a Decide that is done tells and leaves: the place i, the entry x. -/
def DcQ (w : World) (B b sb M : Nat) (v : Value) (K R : Int) (es : List Ent) (i : Nat) (x : Ent) (cd : ByteArray) (n : Nat) (bs : List Int) (u : Value) (w' : World) : Prop :=
  ∃ p c, TRow w' w.heap.size u (goneS K (es.set i (x.vd cd p n c bs))) ∧ BxQ w B b sb M v K R (shedS K (es.set i (x.vd cd p n c bs))) w'
/-- The same; the answer lies in memory of its own. -/
def DcQ2 (w : World) (B b sb M : Nat) (v : Value) (K R : Int) (es : List Ent) (i : Nat) (x : Ent) (cd : ByteArray) (n : Nat) (bs : List Int) (u : Value) (w' : World) : Prop :=
  ∃ p c, TRow w' w.heap.size u (goneS K (es.set i (x.vd cd p n c bs))) ∧ BxQ w B b sb M v K R (shedS K (es.set i (x.vd cd p n c bs))) w' ∧ BRow w' w.heap.size (.slice p n c) bs
set_option maxRecDepth 100000 in
set_option maxHeartbeats 4000000 in
theorem dec_yes2 (h : Bx w B b sb M v K R es) {s cd : ByteArray} {po : Option Addr} {n co i : Nat} {bs : List Int} {x : Ent} (hk : KeyS s) (hb : Byts w po n bs) (hv : vdB cd = true) (hn : n ≤ 2048) (hf : fi s es = some i) (hx : es[i]? = some x) (ho : opB x = true) : Calls Tryz.prog 26 #[.pointer (some ⟨b, 0, none⟩), .string s, .string cd, .slice po n co] w fun r w' => ∃ u, r = .returned (.tuple #[u, .nilIface]) ∧ Hid (DcQ2 w B b sb M v K R es i x cd n bs u w') := by
  have hmk := made_yes h
  have hvd := isVerdict_any cd w
  rw [hv] at hvd
  have c0 := hcell h.blk 0
  have k2 := h.sh.cells.2.2.1
  have k3 := h.sh.cells.2.2.2.1
  have q1 : ¬ (n : Int) > 2048 := by omega
  have hlk := h.sh.map.look_yes hk hf
  have hil := (List.getElem?_eq_some_iff.1 hx).1
  obtain ⟨a, cc, hvv, _⟩ := h.sh.row.isSlice
  obtain ⟨m, hm⟩ : ∃ m, es.length = m := ⟨_, rfl⟩
  have hrow := h.sh.row
  rw [hvv, hm] at hrow k2
  rw [hm] at hil
  obtain ⟨g, rfl, hg, hc⟩ := nrow_cells hrow hx
  obtain ⟨d0, d1, d2, d3, d4, d5, d6⟩ := hc
  have q2 : (i : Int) < m := by omega
  have hdc := isDecided_any x w
  rw [show dcB x = false by unfold opB at ho; unfold dcB; simpa using ho] at hdc
  have HH : Hid (Bx w B b sb M v K R es) := h
  have HA : Hid (Byts w po n bs ∧ vdB cd = true ∧ n ≤ 2048 ∧ es[i]? = some x ∧ opB x = true) := ⟨hb, hv, hn, hx, ho⟩
  clear h hb hv hf hx ho hvv hm hrow hg
  go_enter Tryz.func26, Tryz.ntmps26
  go_wp2_with (first | (go_at_call 51; refine hmk.mono ?_; rintro _ w9 ⟨rfl, h9⟩; subst w9) | (go_at_call 59; refine hvd.mono ?_; rintro _ w9 ⟨rfl, h9⟩; subst w9))
  refine hdc.mono ?_
  rintro _ w1 ⟨rfl, hb1⟩
  have HB1 : Hid (Below w.heap.size w w1) := hb1
  have HH1 : Hid (Bx w1 B b sb M v K R es) := HH.out.below hb1
  have c01 := hcell HH1.out.blk 0
  have lb := HH1.out.lt
  have hfr : Hid (∀ z, Below w1.heap.size w1 z → Calls Tryz.prog 61 #[.slice po n co] z fun r z' => ∃ a k, r = .returned (.slice a n k) ∧ Hid (BRow z' w1.heap.size (.slice a n k) bs ∧ Below w1.heap.size w1 z')) := fun z hz =>
    (fresh_any z ((HA.out.1.below HB1.out).below hz) (by have := HA.out.2.2.1; omega)).mono fun r z' ⟨a, k, g1, g2, g3⟩ => ⟨a, k, g1, ERow.base g2 hz.size, below_then hz g3⟩
  have hde : Hid (∀ a k z, BRow z w1.heap.size (.slice a n k) bs ∧ Below w1.heap.size w1 z → Calls Tryz.prog 60 #[.pointer (some ⟨sb, 0, none⟩), .int .i64 (i : Int), .string cd, .slice a n k] z fun r z' => r = .returned (.tuple #[]) ∧ Hid (∃ v', Shf z' B sb M v' K R (es.set i (x.vd cd a n k bs)) ∧ (∀ e ∈ es.set i (x.vd cd a n k bs), Own z' B e) ∧ z'.heap[b]? = some (.cells #[.pointer (some ⟨sb, 0, none⟩)] 97 (0, 0)) ∧ Off (Ft sb M v) w z' ∧ (∀ q, v'.ownBlock = some q → v.ownBlock = some q ∨ w.heap.size ≤ q) ∧ (∀ q, w.heap.size ≤ q → ¬ Ft sb M v q) ∧ BRow z' w.heap.size (.slice a n k) bs)) := fun a k z ⟨hr, hz⟩ => by
    have hz2 := HH1.out.below hz
    refine (sdecide_any (bs := bs) hz2.sh HA.out.2.2.2.1 HA.out.2.2.2.2 HA.out.2.1 HA.out.2.2.1).mono fun r z' ⟨g1, g2⟩ => ⟨g1, ?_⟩
    obtain ⟨v', s1, s2, s3⟩ := g2.of_below (below_then HB1.out hz)
    obtain ⟨v'', t1, t2, t3⟩ := g2
    have hB : B ≤ w1.heap.size := Nat.le_trans HH1.out.lb (Nat.le_of_lt HH1.out.lt)
    refine ⟨v', s1, fun e he => ?_, (t2.block b hz2.lt hz2.nb).trans hz2.blk, s2, s3, fun q hq hF => ?_, ?_⟩
    · refine Own.byType (w := z) ?_ t2 hz2.sh.notBytes
      rcases List.mem_or_eq_of_mem_set he with g | rfl
      · exact hz2.own e g
      · have hx := hz2.own x (List.mem_of_getElem? HA.out.2.2.2.1)
        exact ⟨hx.t, hx.c, ERow.base hr hB⟩
    · rcases hF with rfl | rfl | hF
      · have := HH.out.sh.lt; omega
      · have := HH.out.sh.map.lt; omega
      · have := (HH.out.sh.row.lt hF).2; omega
    · have ho' : Own z w1.heap.size (zE.vd cd a n k bs) := ⟨ERow.nil _ _ _ _ _, ERow.nil _ _ _ _ _, hr⟩
      exact ERow.base (ho'.byType t2 hz2.sh.notBytes).a HB1.out.size
  clear hdc hb1 d0 d1 d2 d3 d4 d5 d6 c0 k2 k3 hlk hmk hvd q2 hil
  go_wp2_with fail
  go_region_law (first | (go_simp; go_at_call 61; refine (hfr.out _ ?_).mono ?_; (repeat' (first | exact Below.refl _ _ | refine Below.drew ?_)); rintro _ w5 ⟨a5, c5, rfl, hh5⟩; have hc5 := (held_of hh5.out.2).cell; go_wp2_with fail) | (go_simp; go_at_call 60; refine (hde.out _ _ _ ?_).mono ?_; (exact hh5.out); rintro _ w6 ⟨rfl, hh6⟩; go_wp2_with fail))
  all_goals
    obtain ⟨v', s1, s2, s3, s4, s5, s6, s7⟩ := hh6.out
    have c06 := hcell s3 0
    have hsd := shed_any s1 (by have := HH.out.inv.k1; have := HH.out.inv.k2; omega)
    have HZ : Hid (∀ r w7, ShdQ w6 B sb M v' K R (es.set i (x.vd cd a5 n c5 bs)) r w7 → ∃ u, r = .returned u ∧ DcQ2 w B b sb M v K R es i x cd n bs u w7) := fun r w7 ⟨u, t1, t2, v7, t3, t4, t5⟩ => by
      refine ⟨u, t1, a5, c5, ERow.base t2 s4.size, ⟨v7, ⟨?_, t3, fun e he => ?_, HH.out.lb, HH.out.ls, HH.out.lm, ?_⟩, ?_, fun q hq => ?_⟩, ?_⟩
      · refine (t4.block b (blk_lt s3) ?_).trans s3
        rintro (g | g | g)
        · exact HH.out.nb (Or.inl g)
        · exact HH.out.nb (Or.inr (Or.inl g))
        · obtain ⟨cs, g2⟩ := row_type s1.row g
          rw [s3] at g2
          simp at g2
      · exact (s2 e (mem_shed he)).byType t4 s1.notBytes
      · have hmv := may_vd (HH.out.sh.ok x (List.mem_of_getElem? HA.out.2.2.2.1)) a5 c5 bs HA.out.2.1 HA.out.2.2.1
        exact inv_shed HH.out.inv HA.out.2.2.2.1 HA.out.2.2.2.2 hmv.2 rfl
      · refine s4.join t4 fun q hq hF => ?_
        rcases hF with g | g | g
        · exact Or.inl g
        · exact Or.inr (Or.inl g)
        · rcases s5 q g with g2 | g2
          · exact Or.inr (Or.inr g2)
          · omega
      · rcases t5 q hq with g | g
        · exact s5 q g
        · exact Or.inr (Nat.le_trans s4.size g)
      · have ho' : Own w6 w.heap.size (zE.vd cd a5 n c5 bs) := ⟨ERow.nil _ _ _ _ _, ERow.nil _ _ _ _ _, s7⟩
        exact (ho'.byType t4 s1.notBytes).a
    clear hh5 hh6 s1 s2 s3 s4 s5 s6 s7 hfr hde HH1 HB1 c01 hc5
    go_wp2_with fail
    refine hsd.mono ?_
    rintro rr w7 hq
    obtain ⟨u, rfl, h7⟩ := HZ.out rr w7 hq
    have H7 : Hid (DcQ2 w B b sb M v K R es i x cd n bs u w7) := h7
    clear hsd hq h7 c06 HZ
    go_wp2_with fail
    go_ret2
    exact ⟨u, rfl, H7⟩
theorem dec_yes (h : Bx w B b sb M v K R es) {s cd : ByteArray} {po : Option Addr} {n co i : Nat} {bs : List Int} {x : Ent} (hk : KeyS s) (hb : Byts w po n bs) (hv : vdB cd = true) (hn : n ≤ 2048) (hf : fi s es = some i) (hx : es[i]? = some x) (ho : opB x = true) : Calls Tryz.prog 26 #[.pointer (some ⟨b, 0, none⟩), .string s, .string cd, .slice po n co] w fun r w' => ∃ u, r = .returned (.tuple #[u, .nilIface]) ∧ Hid (DcQ w B b sb M v K R es i x cd n bs u w') :=
  (dec_yes2 h hk hb hv hn hf hx ho).mono fun r w' ⟨u, h1, h2⟩ => ⟨u, h1, by
    obtain ⟨p, c, t1, t2, _⟩ := h2.out
    exact ⟨p, c, t1, t2⟩⟩
end
end Go.Proofs.YtplhdgijjckjcaaGreatDoor
