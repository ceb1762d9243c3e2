import Derived.Test.YtjbkfppibnlmoaaDoorIbKeepS
import Derived.Test.YtjbkfppibnlmoaaDoorIbRead
/-
  InboxKeeps: the statement's own calls: MayBe, open, known, goes, there.
-/
namespace Go.Proofs.YtjbkfppibnlmoaaDoor
open Go.RowKit

set_option maxHeartbeats 1000000 in
theorem rVerdict_any (s : ByteArray) (w : World) : Calls Tryd.prog 58 #[.string s] w fun e w' => e = .returned (.bool (vdB s)) ∧ w' = w := by
  cases h1 : (s.toList == [65, 65]) <;> cases h2 : (s.toList == [65, 69]) <;> cases h3 : (s.toList == [65, 82])
  all_goals
    go_enter Tryd.func58, Tryd.ntmps58
    go_wp2
    go_ret
    exact ⟨ret_bool (by simp [vdB, h1, h2, h3]), rfl⟩
def encI (i : Nat) : List Value := [.int .i64 (i : Int)]
theorem encI_len (i : Nat) : (encI i).length = 1 := rfl
theorem encI_one (i : Nat) : ∀ u ∈ encI i, u.oneCell' = true := fun u hu => by
  simp only [encI, List.mem_cons, List.not_mem_nil, or_false] at hu; rw [hu]; rfl
theorem celI : Cel Tryd.prog 3 1 8 := cel_of (by kernel_rfl)
abbrev IRow (w : World) (B : Nat) (v : Value) (l : List Nat) : Prop := ERow w B 3 1 encI v l
/-- The numbers of the open ones. -/
def opN (l : List Bk) : List Nat := (l.zipIdx.filter (fun p => !p.1.de)).map (·.2)
theorem opN_snoc (l : List Bk) (b : Bk) : opN (l ++ [b]) = opN l ++ (if b.de = true then [] else [l.length]) := by
  unfold opN
  rw [List.zipIdx_append, List.filter_append, List.map_append]
  congr 1
  cases hb : b.de <;> simp [hb]
theorem opN_len (l : List Bk) : (opN l).length = l.countP (fun b => !b.de) := by
  unfold opN
  rw [List.length_map, ← List.countP_eq_length_filter]
  have : l.countP (fun b => !b.de) = (l.zipIdx.map Prod.fst).countP (fun b => !b.de) := by rw [List.zipIdx_map_fst]
  rw [this, List.countP_map]
  rfl
theorem opN_at {l : List Bk} {j k : Nat} (h : (opN l)[j]? = some k) : ∃ b, l[k]? = some b ∧ b.de = false := by
  have hm := List.mem_of_getElem? h
  unfold opN at hm
  obtain ⟨p, hp, rfl⟩ := List.mem_map.1 hm
  obtain ⟨h1, h2⟩ := List.mem_filter.1 hp
  obtain ⟨b, i⟩ := p
  rw [List.mem_zipIdx_iff_getElem?] at h1
  exact ⟨b, h1, by simpa using h2⟩
theorem take_snoc {α : Type} {l : List α} {i : Nat} {x : α} (hx : l[i]? = some x) : l.take (i + 1) = l.take i ++ [x] := by
  obtain ⟨hi, rfl⟩ := List.getElem?_eq_some_iff.1 hx
  exact List.take_succ_eq_append_getElem hi
section
variable {w : World} {B n c : Nat} {a : Option Addr} {l : List Bk}
def knB (s : ByteArray) (b : Bk) : Bool := (b.ct.toList == s.toList) && !b.go
end
end Go.Proofs.YtjbkfppibnlmoaaDoor

/-
  InboxKeeps: there; the document's MayBe.
-/
namespace Go.Proofs.YtjbkfppibnlmoaaDoor
open Go.RowKit

section
variable {W w : World} {b sb M : Nat} {K R : Int} {es : List Ent} {B n c : Nat} {a : Option Addr} {l : List Bk}
end
set_option maxRecDepth 100000 in
set_option maxHeartbeats 4000000 in
theorem rControl_any (s : ByteArray) (w : World) : Calls Tryd.prog 57 #[.string s] w fun e w' => e = .returned (.bool (ctB s)) ∧ w' = w := by
  by_cases h0 : s.size < 1
  · have e0 : ctB s = false := by unfold ctB; rw [decide_eq_false (by omega)]; rfl
    rw [e0]
    have h2 : (s.size : Int) < 1 := by omega
    go_enter Tryd.func57, Tryd.ntmps57
    go_wp2
    go_ret
    exact ⟨rfl, rfl⟩
  by_cases h18 : 18 < s.size
  · have e0 : ctB s = false := by unfold ctB; rw [decide_eq_false (show ¬ s.size ≤ 18 by omega)]; simp
    rw [e0]
    have h2 : ¬ (s.size : Int) < 1 := by omega
    have h3 : (s.size : Int) > 18 := by omega
    go_enter Tryd.func57, Tryd.ntmps57
    go_wp2
    go_ret
    exact ⟨rfl, rfl⟩
  have h2 : ¬ (s.size : Int) < 1 := by omega
  have h3 : ¬ (s.size : Int) > 18 := by omega
  have HE : Hid (ctB s = s.data.toList.all (fun c => cbB (c.toNat : Int))) := by
    unfold ctB; rw [decide_eq_true (show 1 ≤ s.size by omega), decide_eq_true (show s.size ≤ 18 by omega)]; rfl
  have HL : Hid (s.data.toList.length = s.size) := rfl
  go_enter Tryd.func57, Tryd.ntmps57
  go_wp2_with fail
  go_loopw [3] (fun t wx => ∃ i : Nat, i ≤ s.size ∧ t = .int .i64 i ∧ wx = w ∧ Hid ((s.data.toList.take i).all (fun c => cbB (c.toNat : Int)) = true)) (fun t _ => s.size - (intOf t).toNat)
  case atStart => exact ⟨0, Nat.zero_le _, rfl, rfl, rfl⟩
  case round =>
    obtain ⟨i, hi, rfl, rfl, HA⟩ := hrel
    by_cases hlt : i < s.size
    · have hlt1 : (i : Int) < s.size := by omega
      have hx : s.data.toList[i]? = some s[i] := by rw [Array.getElem?_toList]; exact Array.getElem?_eq_getElem hlt
      have HT : Hid (cbB (s[i].toNat : Int) = true → (s.data.toList.take (i + 1)).all (fun c => cbB (c.toNat : Int)) = true) := fun h => by
        rw [take_snoc hx, List.all_append, HA.out]
        simp [h]
      have HF : Hid (cbB (s[i].toNat : Int) = false → ctB s = false) := fun h => by
        rw [HE.out, List.all_eq_false]
        exact ⟨s[i], List.mem_of_getElem? hx, by rw [h]; decide⟩
      obtain ⟨c, hc⟩ : ∃ c : Int, (s[i].toNat : Int) = c := ⟨_, rfl⟩
      rw [hc] at HT HF
      clear hx
      go_wp2_with fail
      all_goals (try simp only [Bool.not_eq_false', Bool.not_eq_true', decide_eq_true_eq, decide_eq_false_iff_not, bne_eq_false_iff_eq, bne_iff_ne, ne_eq] at *)
      all_goals first
        | (go_ret; refine ⟨ret_bool (HF.out ?_).symm, rfl⟩; unfold cbB; rw [Bool.eq_iff_iff]; simp; try (first | omega | (intros; omega)))
        | (go_roundw
           case rel =>
             refine ⟨i + 1, hlt, by go_num, by trivial, HT.out ?_⟩
             unfold cbB
             rw [Bool.eq_iff_iff]
             simp
             try (first | omega | (intros; omega))
           case measure => (simp [intOf]; try omega))
    · have hlt1 : ¬ (i : Int) < s.size := by omega
      have HH : Hid (ctB s = true) := by
        unfold Hid
        rw [HE.out, ← HA.out, List.take_of_length_le (by rw [HL.out]; omega)]
      go_wp2_with fail
      go_ret
      exact ⟨ret_bool HH.out.symm, rfl⟩
end Go.Proofs.YtjbkfppibnlmoaaDoor

/-
  InboxKeeps: the document's MayBe.
-/
namespace Go.Proofs.YtjbkfppibnlmoaaDoor
open Go.RowKit

set_option maxRecDepth 100000 in
set_option maxHeartbeats 4000000 in
theorem rMayBe_any (e : Ent) (w : World) : Calls Tryd.prog 27 #[.agg #[.string e.ct, .slice e.tp e.tn e.tc, .int .i64 e.nu, .int .i64 e.tk, .slice e.cp e.cn e.cc, .string e.cd, .slice e.ap e.an e.ac]] w fun r w' => r = .returned (.bool (mayB e)) ∧ Below w.heap.size w w' := by
  have bv : Below w.heap.size w (w.alloc (.cells #[.string e.ct, .slice e.tp e.tn e.tc, .int .i64 e.nu, .int .i64 e.tk, .slice e.cp e.cn e.cc, .string e.cd, .slice e.ap e.an e.ac] 30)) := (Below.refl _ _).alloc (Nat.le_refl _) _
  have bx := Box.new w #[.string e.ct, .slice e.tp e.tn e.tc, .int .i64 e.nu, .int .i64 e.tk, .slice e.cp e.cn e.cc, .string e.cd, .slice e.ap e.an e.ac] 30
  obtain ⟨V, hV⟩ : ∃ V, w.alloc (.cells #[.string e.ct, .slice e.tp e.tn e.tc, .int .i64 e.nu, .int .i64 e.tk, .slice e.cp e.cn e.cc, .string e.cd, .slice e.ap e.an e.ac] 30) = V := ⟨_, rfl⟩
  rw [hV] at bv bx
  have HB : Hid (Below w.heap.size w V) := bv
  have hct := rControl_any e.ct V
  have hvd := rVerdict_any e.cd V
  have cx := bx.cell
  clear bv bx
  cases h0 : ctB e.ct with
  | false =>
    have HE : Hid (mayB e = false) := mayB_no (i := 0) (by decide) h0
    rw [h0] at hct
    clear h0 hvd
    go_enter Tryd.func27, Tryd.ntmps27
    go_wp2_with (go_at_call 57; refine hct.mono ?_; rintro _ w9 ⟨rfl, h9⟩; subst w9)
    go_ret
    exact ⟨ret_bool HE.out.symm, HB.out⟩
  | true =>
    rw [h0] at hct
    have H0 : Hid (ctB e.ct = true) := h0
    clear h0
    by_cases h1 : ruB e 1 = true ∧ ruB e 2 = true ∧ ruB e 3 = true ∧ ruB e 4 = true ∧ ruB e 5 = true
    · obtain ⟨h1, h2, h3, h4, h5⟩ := h1
      simp only [ruB, Bool.and_eq_true, decide_eq_true_eq] at h1 h2 h3 h4 h5
      have g1 : ¬ (e.tn : Int) < 1 := by omega
      have g2 : ¬ (e.tn : Int) > 8192 := by omega
      have g3 : ¬ e.nu < 0 := by omega
      have g4 : ¬ e.nu > 2147483647 := by omega
      have g5 : ¬ e.tk < 0 := by omega
      have g6 : ¬ e.tk > 1099511627776 := by omega
      have g7 : ¬ (e.cn : Int) > 2048 := by omega
      have g8 : ¬ (e.an : Int) > 2048 := by omega
      have HM : Hid (mayB e = (ruB e 6 && ruB e 7)) := by
        unfold Hid mayB
        rw [show ruB e 0 = true from H0.out, show ruB e 1 = true by simp [ruB]; omega, show ruB e 2 = true by simp [ruB]; omega, show ruB e 3 = true by simp [ruB]; omega, show ruB e 4 = true by simp [ruB]; omega, show ruB e 5 = true by simp [ruB]; omega]
        rfl
      cases h6 : e.cd.toList.isEmpty with
      | true =>
        have HE : Hid (mayB e = decide (e.an = 0)) := by unfold Hid; rw [HM.out]; simp [ruB, h6]
        clear h1 h2 h3 h4 h5 hvd HM
        by_cases h7 : e.an = 0
        · have q7 : ((e.an : Int) == 0) = true := by rw [h7]; rfl
          have HE2 : Hid (mayB e = true) := by unfold Hid; rw [HE.out, decide_eq_true h7]
          clear h7 HE
          go_enter Tryd.func27, Tryd.ntmps27
          go_wp2_with (go_at_call 57; refine hct.mono ?_; rintro _ w9 ⟨rfl, h9⟩; subst w9)
          go_ret
          exact ⟨ret_bool HE2.out.symm, HB.out⟩
        · have q7 : ((e.an : Int) == 0) = false := by rw [beq_eq_false_iff_ne]; omega
          have HE2 : Hid (mayB e = false) := by unfold Hid; rw [HE.out, decide_eq_false h7]
          clear h7 HE
          go_enter Tryd.func27, Tryd.ntmps27
          go_wp2_with (go_at_call 57; refine hct.mono ?_; rintro _ w9 ⟨rfl, h9⟩; subst w9)
          go_ret
          exact ⟨ret_bool HE2.out.symm, HB.out⟩
      | false =>
        have HE : Hid (mayB e = vdB e.cd) := by unfold Hid; rw [HM.out]; simp [ruB, h6]
        clear h1 h2 h3 h4 h5 HM
        go_enter Tryd.func27, Tryd.ntmps27
        go_wp2_with (first | (go_at_call 57; refine hct.mono ?_; rintro _ w9 ⟨rfl, h9⟩; subst w9) | (go_at_call 58; refine hvd.mono ?_; rintro _ w9 ⟨rfl, h9⟩; subst w9))
        go_ret
        exact ⟨ret_bool HE.out.symm, HB.out⟩
    · have HE : Hid (mayB e = false) := by
        unfold Hid
        rw [Bool.eq_false_iff]
        intro h
        have := mayB_is h
        apply h1
        simp only [ruB, Bool.and_eq_true, decide_eq_true_eq]
        omega
      simp only [ruB, Bool.and_eq_true, decide_eq_true_eq] at h1
      clear hvd
      by_cases g1 : (e.tn : Int) < 1
      · clear h1
        go_enter Tryd.func27, Tryd.ntmps27
        go_wp2_with (go_at_call 57; refine hct.mono ?_; rintro _ w9 ⟨rfl, h9⟩; subst w9)
        go_ret
        exact ⟨ret_bool HE.out.symm, HB.out⟩
      by_cases g2 : (e.tn : Int) > 8192
      · clear h1
        go_enter Tryd.func27, Tryd.ntmps27
        go_wp2_with (go_at_call 57; refine hct.mono ?_; rintro _ w9 ⟨rfl, h9⟩; subst w9)
        go_ret
        exact ⟨ret_bool HE.out.symm, HB.out⟩
      by_cases g3 : e.nu < 0
      · clear h1
        go_enter Tryd.func27, Tryd.ntmps27
        go_wp2_with (go_at_call 57; refine hct.mono ?_; rintro _ w9 ⟨rfl, h9⟩; subst w9)
        go_ret
        exact ⟨ret_bool HE.out.symm, HB.out⟩
      by_cases g4 : e.nu > 2147483647
      · clear h1
        go_enter Tryd.func27, Tryd.ntmps27
        go_wp2_with (go_at_call 57; refine hct.mono ?_; rintro _ w9 ⟨rfl, h9⟩; subst w9)
        go_ret
        exact ⟨ret_bool HE.out.symm, HB.out⟩
      by_cases g5 : e.tk < 0
      · clear h1
        go_enter Tryd.func27, Tryd.ntmps27
        go_wp2_with (go_at_call 57; refine hct.mono ?_; rintro _ w9 ⟨rfl, h9⟩; subst w9)
        go_ret
        exact ⟨ret_bool HE.out.symm, HB.out⟩
      by_cases g6 : e.tk > 1099511627776
      · clear h1
        go_enter Tryd.func27, Tryd.ntmps27
        go_wp2_with (go_at_call 57; refine hct.mono ?_; rintro _ w9 ⟨rfl, h9⟩; subst w9)
        go_ret
        exact ⟨ret_bool HE.out.symm, HB.out⟩
      by_cases g7 : (e.cn : Int) > 2048
      · clear h1
        go_enter Tryd.func27, Tryd.ntmps27
        go_wp2_with (go_at_call 57; refine hct.mono ?_; rintro _ w9 ⟨rfl, h9⟩; subst w9)
        go_ret
        exact ⟨ret_bool HE.out.symm, HB.out⟩
      have g8 : (e.an : Int) > 2048 := by omega
      clear h1
      go_enter Tryd.func27, Tryd.ntmps27
      go_wp2_with (go_at_call 57; refine hct.mono ?_; rintro _ w9 ⟨rfl, h9⟩; subst w9)
      go_ret
      exact ⟨ret_bool HE.out.symm, HB.out⟩
end Go.Proofs.YtjbkfppibnlmoaaDoor

/-
  A box where other blocks change.
-/
namespace Go.Proofs.YtjbkfppibnlmoaaDoor
open Go.RowKit

section
variable {w w' : World} {B b sb M : Nat} {v : Value} {K R : Int} {es : List Ent}
/-- A block of another type is none of its blocks. -/
theorem Shf.notType (h : Shf w B sb M v K R es) {t : TypeId} (h1 : 69 ≠ t) (h2 : 30 ≠ t) {q : Nat} {cs : Array Value} {cur : Nat × Nat} (hq : w.heap[q]? = some (.cells cs t cur)) : ¬ Ft sb M v q := by
  rintro (rfl | rfl | hg)
  · rw [h.blk] at hq
    simp only [Option.some.injEq, Obj.cells.injEq] at hq
    exact h1 hq.2.1
  · obtain ⟨es', clock, hm⟩ := h.map.isMap
    rw [hm] at hq
    simp at hq
  · obtain ⟨cs', b1⟩ := row_type h.row hg
    rw [b1] at hq
    simp only [Option.some.injEq, Obj.cells.injEq] at hq
    exact h2 hq.2.1
theorem Bx.off {P : Nat → Prop} (h : Bx w B b sb M v K R es) (o : Off P w w') (hb : ¬ P b) (hF : ∀ q, Ft sb M v q → ¬ P q) (hy : ∀ q cs, w.heap[q]? = some (.cells cs 5 (0, 0)) → ¬ P q) : Bx w' B b sb M v K R es :=
  ⟨(o.block b h.lt hb).trans h.blk, h.sh.off o hF, fun e he => (h.own e he).byType o hy, h.lb, h.ls, h.lm, h.inv⟩
end
end Go.Proofs.YtjbkfppibnlmoaaDoor
