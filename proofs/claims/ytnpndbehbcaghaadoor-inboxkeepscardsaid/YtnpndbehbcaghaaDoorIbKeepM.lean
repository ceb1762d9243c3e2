/-
  InboxKeeps: the statement's own calls: MayBe, open, known, goes, there.
-/
import Derived.Test.YtnpndbehbcaghaaDoorIbKeepS
namespace Go.Proofs.YtnpndbehbcaghaaDoor
open Go.RowKit

set_option maxHeartbeats 1000000 in
theorem rVerdict_any (s : ByteArray) (w : World) : Calls Tryd.prog 42 #[.string s] w fun e w' => e = .returned (.bool (vdB s)) ∧ w' = w := by
  cases h1 : (s.toList == [65, 65]) <;> cases h2 : (s.toList == [65, 69]) <;> cases h3 : (s.toList == [65, 82])
  all_goals
    go_enter Tryd.func42, Tryd.ntmps42
    go_wp2
    go_ret
    exact ⟨ret_bool (by simp [vdB, h1, h2, h3]), rfl⟩
abbrev KRow (w : World) (B : Nat) (v : Value) (l : List Bk) : Prop := ERow w B 42 3 encK v l
theorem celK : Cel Tryd.prog 42 3 24 := cel_of (by kernel_rfl)
theorem krow_at {w : World} {B : Nat} {a : Option Addr} {n c : Nat} {l : List Bk} (h : KRow w B (.slice a n c) l) {j : Nat} {b : Bk} (hb : l[j]? = some b) : ∃ g, a = some ⟨g, 0, none⟩ ∧ g < w.heap.size ∧ w.cell? ⟨g, j * 3, none⟩ = some (.string b.ct) ∧ w.cell? ⟨g, j * 3 + 1, none⟩ = some (.bool b.de) ∧ w.cell? ⟨g, j * 3 + 2, none⟩ = some (.bool b.go) := by
  obtain ⟨g, h1, h2, h3⟩ := ERow.at_ encK_len h hb
  exact ⟨g, h1, h2, h3 0 (by decide), h3 1 (by decide), h3 2 (by decide)⟩
def encI (i : Nat) : List Value := [.int .i64 (i : Int)]
theorem encI_len (i : Nat) : (encI i).length = 1 := rfl
theorem encI_one (i : Nat) : ∀ u ∈ encI i, u.oneCell' = true := fun u hu => by
  simp only [encI, List.mem_cons, List.not_mem_nil, or_false] at hu; rw [hu]; rfl
theorem celI : Cel Tryd.prog 3 1 8 := cel_of (by kernel_rfl)
abbrev IRow (w : World) (B : Nat) (v : Value) (l : List Nat) : Prop := ERow w B 3 1 encI v l
/-- The numbers of the open ones. -/
def opN (l : List Bk) : List Nat := (l.zipIdx.filter (fun p => !p.1.de)).map (·.2)
theorem opN_snoc (l : List Bk) (b : Bk) : opN (l ++ [b]) = opN l ++ (if b.de = true then [] else [l.length]) := by
  unfold opN
  rw [List.zipIdx_append, List.filter_append, List.map_append]
  congr 1
  cases hb : b.de <;> simp [hb]
theorem opN_len (l : List Bk) : (opN l).length = l.countP (fun b => !b.de) := by
  unfold opN
  rw [List.length_map, ← List.countP_eq_length_filter]
  have : l.countP (fun b => !b.de) = (l.zipIdx.map Prod.fst).countP (fun b => !b.de) := by rw [List.zipIdx_map_fst]
  rw [this, List.countP_map]
  rfl
theorem opN_at {l : List Bk} {j k : Nat} (h : (opN l)[j]? = some k) : ∃ b, l[k]? = some b ∧ b.de = false := by
  have hm := List.mem_of_getElem? h
  unfold opN at hm
  obtain ⟨p, hp, rfl⟩ := List.mem_map.1 hm
  obtain ⟨h1, h2⟩ := List.mem_filter.1 hp
  obtain ⟨b, i⟩ := p
  rw [List.mem_zipIdx_iff_getElem?] at h1
  exact ⟨b, h1, by simpa using h2⟩
theorem take_snoc {α : Type} {l : List α} {i : Nat} {x : α} (hx : l[i]? = some x) : l.take (i + 1) = l.take i ++ [x] := by
  obtain ⟨hi, rfl⟩ := List.getElem?_eq_some_iff.1 hx
  exact List.take_succ_eq_append_getElem hi
section
variable {w : World} {B n c : Nat} {a : Option Addr} {l : List Bk}
set_option maxRecDepth 100000 in
set_option maxHeartbeats 2000000 in
theorem lopen_any (h : KRow w B (.slice a n c) l) (hn6 : n ≤ 1000000) : Calls Tryd.prog 9 #[.slice a n c] w fun r w' => ∃ u, r = .returned u ∧ IRow w' w.heap.size u (opN l) ∧ Below w.heap.size w w' := by
  have HR : Hid (KRow w B (.slice a n c) l ∧ l.length = n) := ⟨h, (ERow.len h).symm⟩
  clear h
  go_enter Tryd.func9, Tryd.ntmps9
  go_wp2_with fail
  go_loopw [3, 4] (fun t3 t4 wx => ∃ i : Nat, i ≤ n ∧ t4 = .int .i64 i ∧ Hid (IRow wx w.heap.size t3 (opN (l.take i)) ∧ Below w.heap.size w wx)) (fun _ t4 _ => n - (intOf t4).toNat)
  case atStart => exact ⟨0, Nat.zero_le _, rfl, by simpa [opN] using ERow.nil _ _ _ _ _, Below.refl _ _⟩
  case round =>
    obtain ⟨i, hi, rfl, HI⟩ := hrel
    by_cases hlt : i < n
    · have hlt1 : (i : Int) < n := by omega
      obtain ⟨b, hb⟩ : ∃ b, l[i]? = some b := ⟨_, List.getElem?_eq_getElem (by rw [HR.out.2]; exact hlt)⟩
      obtain ⟨g, rfl, hg, d0, d1, d2⟩ := krow_at (ERow.below HR.out.1 HI.out.2) hb
      have HT : Hid (opN (l.take (i + 1)) = opN (l.take i) ++ (if b.de = true then [] else [i])) := by
        unfold Hid
        rw [take_snoc hb, opN_snoc, List.length_take, Nat.min_eq_left (by rw [HR.out.2]; omega)]
      have hol : (opN (l.take i)).length ≤ 1000000 := by
        rw [opN_len]
        exact Nat.le_trans List.countP_le_length (by rw [List.length_take]; omega)
      clear hb hg d0 d2
      cases hd : b.de with
      | true =>
        rw [hd] at d1
        have HI2 : Hid (IRow wr w.heap.size u3 (opN (l.take (i + 1))) ∧ Below w.heap.size w wr) := by
          refine ⟨?_, HI.out.2⟩
          rw [HT.out, hd]
          simpa using HI.out.1
        clear hd HT HI
        go_wp2_with fail
        go_roundw
        case rel => exact ⟨i + 1, hlt, by go_num, HI2⟩
        case measure => simp [intOf]; omega
      | false =>
        rw [hd] at d1
        have HT2 : Hid (opN (l.take (i + 1)) = opN (l.take i) ++ [i]) := by unfold Hid; rw [HT.out, hd]; simp
        obtain ⟨a3, c3, e3, _⟩ := ERow.isSlice HI.out.1
        obtain ⟨a2, c2, W2, hap, r2, o2, _⟩ := run_epush (P := Tryd.prog) (t := 35) Tryd.underlying35 celI encI_len encI_one (w := wr) HI.out.1 i #[.int .i64 (i : Int)] rfl (by omega) (by decide) HI.out.2.size
        have HI2 : Hid (IRow W2 w.heap.size (.slice a2 ((opN (l.take i)).length + 1) c2) (opN (l.take (i + 1))) ∧ Below w.heap.size w W2) := by
          refine ⟨by rw [HT2.out]; exact r2, HI.out.2.trans (o2.below HI.out.2.size fun q hq => (HI.out.1.lt hq).1)⟩
        rw [e3] at hap ⊢
        clear e3 r2 o2 hd HT HT2 HI
        go_wp2_with (at_builtin; refine wpList_append_run rfl (.tmp 17) (.tmp 19) 35 _ rfl hap ?_)
        go_roundw
        case rel => exact ⟨i + 1, hlt, by go_num, HI2⟩
        case measure => simp [intOf]; omega
    · have hlt1 : ¬ (i : Int) < n := by omega
      have HZ : Hid (IRow wr w.heap.size u3 (opN l) ∧ Below w.heap.size w wr) := by
        have := HI.out
        rw [List.take_of_length_le (by rw [HR.out.2]; omega)] at this
        exact this
      clear HI
      go_wp2_with fail
      go_ret
      exact ⟨u3, rfl, HZ.out.1, HZ.out.2⟩
def knB (s : ByteArray) (b : Bk) : Bool := (b.ct.toList == s.toList) && !b.go
set_option maxRecDepth 100000 in
set_option maxHeartbeats 2000000 in
theorem known_any (h : KRow w B (.slice a n c) l) (hn6 : n ≤ 1000000) (s : ByteArray) : Calls Tryd.prog 13 #[.slice a n c, .string s] w fun r w' => r = .returned (.bool (l.any (knB s))) ∧ w' = w := by
  have HR : Hid (KRow w B (.slice a n c) l ∧ l.length = n) := ⟨h, (ERow.len h).symm⟩
  clear h
  go_enter Tryd.func13, Tryd.ntmps13
  go_wp2_with fail
  go_loopw [5] (fun t5 wx => ∃ i : Nat, i ≤ n ∧ t5 = .int .i64 i ∧ wx = w ∧ Hid ((l.take i).any (knB s) = false)) (fun t5 _ => n - (intOf t5).toNat)
  case atStart => exact ⟨0, Nat.zero_le _, rfl, rfl, rfl⟩
  case round =>
    obtain ⟨i, hi, rfl, rfl, HI⟩ := hrel
    by_cases hlt : i < n
    · have hlt1 : (i : Int) < n := by omega
      obtain ⟨b, hb⟩ : ∃ b, l[i]? = some b := ⟨_, List.getElem?_eq_getElem (by rw [HR.out.2]; exact hlt)⟩
      obtain ⟨g, rfl, hg, d0, d1, d2⟩ := krow_at HR.out.1 hb
      have HT : Hid ((l.take (i + 1)).any (knB s) = knB s b) := by
        unfold Hid
        rw [take_snoc hb, List.any_append, HI.out]
        simp
      have HM : Hid (knB s b = true → l.any (knB s) = true) := fun h => List.any_eq_true.2 ⟨b, List.mem_of_getElem? hb, h⟩
      clear hb hg d1
      cases h1 : (b.ct.toList == s.toList) with
      | false =>
        have HT2 : Hid ((l.take (i + 1)).any (knB s) = false) := by unfold Hid; rw [HT.out]; unfold knB; rw [h1]; rfl
        go_wp2_with fail
        go_roundw
        case rel => exact ⟨i + 1, hlt, by go_num, by trivial, HT2⟩
        case measure => simp [intOf]; omega
      | true =>
        cases h2 : b.go with
        | true =>
          rw [h2] at d2
          have HT2 : Hid ((l.take (i + 1)).any (knB s) = false) := by unfold Hid; rw [HT.out]; unfold knB; rw [h1, h2]; rfl
          clear h2
          go_wp2_with fail
          go_roundw
          case rel => exact ⟨i + 1, hlt, by go_num, by trivial, HT2⟩
          case measure => simp [intOf]; omega
        | false =>
          rw [h2] at d2
          have HT2 : Hid (l.any (knB s) = true) := HM.out (by unfold knB; rw [h1, h2]; rfl)
          clear h2
          go_wp2_with fail
          go_ret
          exact ⟨ret_bool HT2.out.symm, rfl⟩
    · have hlt1 : ¬ (i : Int) < n := by omega
      have HZ : Hid (l.any (knB s) = false) := by
        have := HI.out
        rw [List.take_of_length_le (by rw [HR.out.2]; omega)] at this
        exact this
      clear HI
      go_wp2_with fail
      go_ret
      exact ⟨ret_bool HZ.out.symm, rfl⟩
end
end Go.Proofs.YtnpndbehbcaghaaDoor
