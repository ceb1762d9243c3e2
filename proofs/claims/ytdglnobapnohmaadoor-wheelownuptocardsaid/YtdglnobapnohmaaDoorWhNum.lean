/-
  The law's numbers, like.
-/
import Derived.Test.YtdglnobapnohmaaDoorWhNext1
namespace Go.Proofs.YtdglnobapnohmaaDoor
open Go.RowKit

def encR (x : Tm) : List Value := [.int .i64 x.1, .string ⟨#[]⟩, .int .i64 (x.2 : Int)]
theorem encR_len (x : Tm) : (encR x).length = 3 := rfl
theorem encR_one (x : Tm) : ∀ u ∈ encR x, u.oneCell' = true := fun u hu => by
  simp only [encR, List.mem_cons, List.not_mem_nil, or_false] at hu
  rcases hu with rfl | rfl | rfl <;> rfl
/-- A row of the document's timers, by numbers. -/
abbrev RRow (w : World) (B : Nat) (v : Value) (xs : List Tm) : Prop := ERow w B 100 3 encR v xs
theorem celR : Cel Tryd.prog 100 3 32 := cel_of (by kernel_rfl)
set_option maxRecDepth 100000 in
set_option maxHeartbeats 2000000 in
theorem numbers_any {w : World} {B n c : Nat} {a : Option Addr} {xs : List Tm} (h : TRow w B (.slice a n c) xs) (hl : xs.length ≤ 1000000) :
    Calls Tryd.prog 18 #[.slice a n c] w fun e w' => ∃ a1 n1 c1, e = .returned (.slice a1 n1 c1) ∧ RRow w' w.heap.size (.slice a1 n1 c1) xs ∧ Below w.heap.size w w' := by
  have HR : Hid (TRow w B (.slice a n c) xs ∧ n = xs.length) := ⟨h, h.len⟩
  have hn := h.len
  have hnl : (n : Int) ≤ 1000000 := by omega
  clear h hn
  go_enter Tryd.func18, Tryd.ntmps18
  go_wp2_with fail
  go_loopw [3, 4] (fun t3 t4 wx => ∃ (i : Nat) (a1 : Option Addr) (n1 c1 : Nat), i ≤ n ∧ t4 = .int .i64 (i : Int) ∧ t3 = .slice a1 n1 c1 ∧ Hid (RRow wx w.heap.size (.slice a1 n1 c1) (xs.take i) ∧ Below w.heap.size w wx)) (fun _ t4 _ => n - (intOf t4).toNat)
  case atStart => exact ⟨0, none, 0, 0, Nat.zero_le _, rfl, rfl, ERow.nil _ _ _ _ _, Below.refl _ _⟩
  case round =>
    obtain ⟨i, a1, n1, c1, hi, rfl, rfl, HJ⟩ := hrel
    by_cases hlt : i < n
    · have hlt1 : (i : Int) < n := by omega
      obtain ⟨⟨k, t⟩, hx⟩ : ∃ x, xs[i]? = some x := ⟨_, List.getElem?_eq_getElem (by have := HR.out.2; omega)⟩
      obtain ⟨g, rfl, hg, hcg⟩ := HR.out.1.at_ encT_len hx
      have hgw : g < wr.heap.size := Nat.lt_of_lt_of_le hg HJ.out.2.size
      have c0 : wr.cell? ⟨g, i * 2, none⟩ = some (.int .i64 k) := (HJ.out.2.cell (p := ⟨g, i * 2, none⟩) hg).trans (hcg 0 (by omega))
      have c1' : wr.cell? ⟨g, i * 2 + 1, none⟩ = some (.int .i64 (t : Int)) := (HJ.out.2.cell (p := ⟨g, i * 2 + 1, none⟩) hg).trans (hcg 1 (by omega))
      have hlen := HJ.out.1.len
      rw [List.length_take] at hlen
      obtain ⟨a2, c2, W1, hap, r1, o1, b1⟩ := run_epush (P := Tryd.prog) (t := 28) Tryd.underlying28 celR encR_len encR_one (w := wr.drew) (HJ.out.1.off (P := fun _ => False) (Off.refl _ _).drew (fun _ _ => id)) (k, t) #[.int .i64 k, .string ⟨#[]⟩, .int .i64 (t : Int)] rfl (by rw [List.length_take]; omega) (by omega) HJ.out.2.size
      rw [← HJ.out.1.len] at hap r1 b1
      have hap' : (Builtin.append_ #[28, 28] 28 #[.slice a1 n1 c1, .slice (some ⟨wr.heap.size, 0, none⟩) 1 1]).run Tryd.prog (wr.alloc (.cells #[.int .i64 k, .string ⟨#[]⟩, .int .i64 (t : Int)] 100)).drew = .ok (.slice a2 (n1 + 1) c2) W1 := hap
      have hbl : Below w.heap.size w W1 := HJ.out.2.trans ((Below.drew (Below.refl _ _)).trans (o1.below HJ.out.2.size fun q e => (HJ.out.1.lt e).1))
      have HN : Hid (RRow W1 w.heap.size (.slice a2 (n1 + 1) c2) (xs.take (i + 1)) ∧ Below w.heap.size w W1) := by
        refine ⟨?_, hbl⟩
        rw [List.take_add_one, hx]
        exact r1
      have d0 : W1.cell? ⟨g, i * 2, none⟩ = some (.int .i64 k) := (hbl.cell (p := ⟨g, i * 2, none⟩) hg).trans (hcg 0 (by omega))
      have d1 : W1.cell? ⟨g, i * 2 + 1, none⟩ = some (.int .i64 (t : Int)) := (hbl.cell (p := ⟨g, i * 2 + 1, none⟩) hg).trans (hcg 1 (by omega))
      have e0 : ∀ o, (wr.alloc o).cell? ⟨g, i * 2, none⟩ = some (.int .i64 k) := fun o => by rw [World.cell?_alloc_lt _ _ ⟨g, i * 2, none⟩ hgw]; exact c0
      have e1 : ∀ o, (wr.alloc o).cell? ⟨g, i * 2 + 1, none⟩ = some (.int .i64 (t : Int)) := fun o => by rw [World.cell?_alloc_lt _ _ ⟨g, i * 2 + 1, none⟩ hgw]; exact c1'
      clear hap r1 o1 b1 hbl hcg hx hlen HJ
      go_wp2_with fail
      go_region_held3 (fun z => z.cell? ⟨g, i * 2, none⟩ = some (.int .i64 k) ∧ z.cell? ⟨g, i * 2 + 1, none⟩ = some (.int .i64 (t : Int))) (simp [*]) (first | (refine step_app_run rfl (.tmp 11) (.tmp 24) 28 rfl rfl rfl hap' ?_))
      go_wp2_with fail
      go_roundw
      case rel => exact ⟨i + 1, a2, n1 + 1, c2, hlt, by go_num, rfl, HN.out⟩
      case measure => simp [intOf]; omega
    · have hlt1 : ¬ (i : Int) < n := by omega
      go_wp2_with fail
      go_ret
      refine ⟨a1, n1, c1, rfl, ?_, HJ.out.2⟩
      have := HJ.out.1
      rwa [List.take_of_length_le (by have := HR.out.2; omega)] at this
set_option maxRecDepth 100000 in
set_option maxHeartbeats 2000000 in
theorem like_true {w : World} {B B' n c n' c' : Nat} {a a' : Option Addr} {xs : List Tm} (h : RRow w B (.slice a n c) xs) (h' : RRow w B' (.slice a' n' c') xs) (hl : xs.length ≤ 1000000) :
    Calls Tryd.prog 17 #[.slice a n c, .slice a' n' c'] w fun e w' => e = .returned (.bool true) ∧ ∃ q, w' = w.drewN q := by
  obtain rfl : n' = n := by rw [h.len, h'.len]
  have HR : Hid (RRow w B (.slice a n' c) xs ∧ RRow w B' (.slice a' n' c') xs ∧ n' = xs.length) := ⟨h, h', h.len⟩
  have hn := h.len
  have hnl : (n' : Int) ≤ 1000000 := by omega
  clear h h' hn
  go_enter Tryd.func17, Tryd.ntmps17
  go_wp2_with fail
  go_loopw [5] (fun t5 wx => ∃ (i q : Nat), i ≤ n' ∧ t5 = .int .i64 (i : Int) ∧ wx = w.drewN q) (fun t5 _ => n' - (intOf t5).toNat)
  case atStart => exact ⟨0, 0, Nat.zero_le _, rfl, rfl⟩
  case round =>
    obtain ⟨i, q, hi, rfl, hw⟩ := hrel
    subst wr
    by_cases hlt : i < n'
    · have hlt1 : (i : Int) < n' := by omega
      obtain ⟨⟨k, t⟩, hx⟩ : ∃ x, xs[i]? = some x := ⟨_, List.getElem?_eq_getElem (by have := HR.out.2.2; omega)⟩
      obtain ⟨g, rfl, hg, hcg⟩ := HR.out.1.at_ encR_len hx
      obtain ⟨g', rfl, hg', hcg'⟩ := HR.out.2.1.at_ encR_len hx
      have p0 : w.cell? ⟨g, i * 3, none⟩ = some (.int .i64 k) := hcg 0 (by omega)
      have p1 : w.cell? ⟨g, i * 3 + 1, none⟩ = some (.string ⟨#[]⟩) := hcg 1 (by omega)
      have p2 : w.cell? ⟨g, i * 3 + 2, none⟩ = some (.int .i64 (t : Int)) := hcg 2 (by omega)
      have r0 : w.cell? ⟨g', i * 3, none⟩ = some (.int .i64 k) := hcg' 0 (by omega)
      have r1 : w.cell? ⟨g', i * 3 + 1, none⟩ = some (.string ⟨#[]⟩) := hcg' 1 (by omega)
      have r2 : w.cell? ⟨g', i * 3 + 2, none⟩ = some (.int .i64 (t : Int)) := hcg' 2 (by omega)
      clear hcg hcg' hx
      go_wp2_with fail
      go_quiet (fail)
      go_wp2_with fail
      go_roundw
      case rel => exact ⟨i + 1, _, hlt, by go_num, rfl⟩
      case measure => simp [intOf]; omega
    · have hlt1 : ¬ (i : Int) < n' := by omega
      go_wp2_with fail
      go_ret
      exact ⟨rfl, _, rfl⟩
end Go.Proofs.YtdglnobapnohmaaDoor
