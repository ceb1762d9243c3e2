/-
  Conditions laid as bytes.
-/
import Derived.Test.YtdjjologpodnkaaGreatDoorLgFlag
namespace Go.Proofs.YtdjjologpodnkaaGreatDoor
open Go.RowKit

theorem byts_two {w : World} {g : Nat} {x y : Int} (h : Box w g #[.int .u8 x, .int .u8 y]) : Byts w (some ⟨g, 0, none⟩) 2 [x, y] :=
  ⟨rfl, fun j hj => ⟨g, 0, rfl, h.lt, by
    rw [Nat.zero_add, h.cell]
    rcases (by omega : j = 0 ∨ j = 1) with rfl | rfl <;> rfl⟩⟩
theorem cond_end {w V z z1 z2 : World} {B : Nat} {v0 : Value} {a1 a2 : Option Addr} {c1 c2 : Nat} {bs : List Int} {x y t : Int} (hO : Off (fun q => v0.ownBlock = some q) w V) (hz : Off (fun _ => False) V z) (h1 : Off (fun q => v0.ownBlock = some q) z z1) (hob : OB v0 (.slice a1 (bs.length + 1) c1) z.heap.size)
    (r2 : BRow z2 B (.slice a2 ((bs ++ [t]).length + 2) c2) (bs ++ [t] ++ [x, y])) (o2 : Off (fun q => (Value.slice a1 (bs.length + 1) c1).ownBlock = some q) z1 z2) : LayQ w B v0 bs [t, x, y] (.returned (.slice a2 (bs.length + 1 + 2) c2)) z2 := by
  refine ⟨a2, c2, ?_, ?_, (hO.join (hz.mono (fun _ g => g.elim)) (fun _ _ g => g)).join (h1.join o2 fun q hq hp => ?_) fun _ _ g => g⟩
  · rfl
  · rw [List.append_assoc, List.length_append] at r2; exact r2
  · rcases hob q hp with g | g
    · exact g
    · omega
theorem cond_a {V z z1 : World} {v0 : Value} {B xb : Nat} (hz : Off (fun _ => False) V z) (h1 : Off (fun q => v0.ownBlock = some q) z z1) (hP : ∀ q, v0.ownBlock = some q → B ≤ q ∧ q < xb) : Off (fun q => (B ≤ q ∧ q < xb) ∨ V.heap.size ≤ q) V z1 :=
  (hz.mono (fun _ g => g.elim)).join h1 fun q _ g => Or.inl (hP q g)
theorem cond_b {V z z1 z2 : World} {v0 v1 : Value} {B xb : Nat} (hz : Off (fun _ => False) V z) (h1 : Off (fun q => v0.ownBlock = some q) z z1) (hob : OB v0 v1 z.heap.size) (h2 : Off (fun q => v1.ownBlock = some q) z1 z2) (hP : ∀ q, v0.ownBlock = some q → B ≤ q ∧ q < xb) : Off (fun q => (B ≤ q ∧ q < xb) ∨ V.heap.size ≤ q) V z2 :=
  (cond_a hz h1 hP).join h2 fun q _ g => by
    rcases hob q g with h | h
    · exact Or.inl (hP q h)
    · exact Or.inr (Nat.le_trans hz.size h)
set_option maxRecDepth 100000 in
set_option maxHeartbeats 4000000 in
theorem cond_lay {w : World} {B : Nat} {v : Value} {bs : List Int} (Bk : Nat) (e : Bool) (x y : Int) (h : BRow w B v bs) (h3 : w.cell? ⟨Bk, 3, none⟩ = some (.bool e)) (h4 : w.cell? ⟨Bk, 4, none⟩ = some (.int .i64 x)) (h5 : w.cell? ⟨Bk, 5, none⟩ = some (.int .i64 y)) (hBk : Bk < B) (hl : bs.length ≤ 1000000) (hB : B ≤ w.heap.size) :
    Calls Tryz.prog 123 #[.agg #[.pointer (some ⟨Bk, 3, none⟩)], v] w (LayQ w B v bs [bitI e, IntKind.u8.wrap x, IntKind.u8.wrap y]) := by
  have hb : Bk < w.heap.size := cell_lt h3
  have bv := (Below.refl w.heap.size w).alloc (Nat.le_refl _) (.cells #[.pointer (some ⟨Bk, 3, none⟩)] 136)
  have bx := Box.new w #[.pointer (some ⟨Bk, 3, none⟩)] 136
  have c3 := (bv.cell (p := ⟨Bk, 3, none⟩) hb).trans h3
  have c4 := (bv.cell (p := ⟨Bk, 4, none⟩) hb).trans h4
  have c5 := (bv.cell (p := ⟨Bk, 5, none⟩) hb).trans h5
  obtain ⟨a0, c0, rfl, _⟩ := ERow.isSlice h
  have hown : ∀ q, (Value.slice a0 bs.length c0).ownBlock = some q → B ≤ q ∧ q < w.heap.size := fun q hq => BRow.own h hq
  go_enter Tryz.func123, Tryz.ntmps123
  go_wp2_with fail
  have hr1 := ERow.below h bv
  generalize w.alloc (.cells #[.pointer (some ⟨Bk, 3, none⟩)] 136) = V at bv bx c3 c4 c5 hr1 ⊢
  obtain ⟨xb, hxb⟩ : ∃ xb, w.heap.size = xb := ⟨_, rfl⟩
  have hxV : xb < V.heap.size := by rw [← hxb]; exact bx.lt
  have hBV : B ≤ V.heap.size := Nat.le_trans hB bv.size
  have hBkV : Bk < V.heap.size := cell_lt c3
  have HF : Hid (∀ z, Off (fun _ => False) V z → Calls Tryz.prog 126 #[.agg #[.pointer (some ⟨Bk, 3, none⟩)], .slice a0 bs.length c0] z (FlagQ z B (.slice a0 bs.length c0) bs (bitI e))) := fun z hz =>
    flag_lay Bk 3 e (ERow.off hr1 hz fun _ _ g => g) ((hz.cell (p := ⟨Bk, 3, none⟩) hBkV (fun g => g)).trans c3) hl (Nat.le_trans hBV hz.size)
  have gs : ∀ {z : World}, Off (fun q => (B ≤ q ∧ q < xb) ∨ V.heap.size ≤ q) V z → z.cell? ⟨xb, 0, none⟩ = some (.pointer (some ⟨Bk, 3, none⟩)) ∧ z.cell? ⟨Bk, 4, none⟩ = some (.int .i64 x) ∧ z.cell? ⟨Bk, 5, none⟩ = some (.int .i64 y) := fun {z} hz =>
    ⟨(hz.cell (p := ⟨xb, 0, none⟩) hxV (fun g => by simp only at g; omega)).trans (by rw [← hxb]; exact bx.cell 0), (hz.cell (p := ⟨Bk, 4, none⟩) hBkV (fun g => by simp only at g; omega)).trans c4, (hz.cell (p := ⟨Bk, 5, none⟩) hBkV (fun g => by simp only at g; omega)).trans c5⟩
  have HW : Hid (Off (fun q => (Value.slice a0 bs.length c0).ownBlock = some q) w V ∧ B ≤ V.heap.size ∧ bs.length ≤ 1000000 ∧ (∀ q, (Value.slice a0 bs.length c0).ownBlock = some q → B ≤ q ∧ q < xb) ∧ xb < V.heap.size) := ⟨Off.of_below bv, hBV, hl, fun q hq => by rw [← hxb]; exact hown q hq, hxV⟩
  have k0 : V.cell? ⟨xb, 0, none⟩ = some (.pointer (some ⟨Bk, 3, none⟩)) := by rw [← hxb]; exact bx.cell 0
  rw [hxb]
  clear bv bx hxb h h3 h4 h5 hb hown hB hBk hBV hl hr1 hxV hBkV c3
  go_region_held3 (fun z => z.cell? ⟨xb, 0, none⟩ = some (.pointer (some ⟨Bk, 3, none⟩)) ∧ z.cell? ⟨Bk, 4, none⟩ = some (.int .i64 x) ∧ z.cell? ⟨Bk, 5, none⟩ = some (.int .i64 y)) (first | (refine gs ?_; (repeat' (first | (with_reducible exact Off.refl _ _) | (with_reducible exact Hid.out (by assumption)) | (with_reducible refine Off.alloc ?_ _) | (with_reducible refine Off.drew ?_))))) (first | (go_at_call 126; refine (HF.out _ ?_).mono ?_; ((repeat' (first | (with_reducible exact Off.refl _ _) | (with_reducible refine Off.alloc ?_ _) | (with_reducible refine Off.drew ?_)))); rintro _ z1 ⟨a1, c1, rfl, H1⟩; have HZ1 : Hid (Off (fun _ => False) V z1 → True) := (fun _ => trivial); have hz0 := H1.out.2.1; have ho1 : Hid (Off (fun q => (B ≤ q ∧ q < xb) ∨ V.heap.size ≤ q) V z1) := (cond_a (by repeat' (first | (with_reducible exact Off.refl _ _) | (with_reducible refine Off.alloc ?_ _) | (with_reducible refine Off.drew ?_))) hz0 HW.out.2.2.2.1); clear HZ1 hz0; skip) | (obtain ⟨a2, c2, z2, hr, r2, o2⟩ := run_app (B := B) 2 (ERow.below H1.out.1 ((Below.refl z1.heap.size z1).alloc (Nat.le_refl _) (.cells #[.int .u8 (IntKind.u8.wrap x), .int .u8 (IntKind.u8.wrap y)] 5))) (byts_two (Box.new z1 #[.int .u8 (IntKind.u8.wrap x), .int .u8 (IntKind.u8.wrap y)] 5)) (by rw [List.length_append]; have := HW.out.2.2.1; simp; omega) (by have h1 := HW.out.2.1; have h2 := (Hid.out ho1).size; simp; omega); simp only [List.length_append, List.length_singleton] at hr; refine step_app_run3 (sv := .slice a1 (bs.length + 1) c1) (xv := .slice (some ⟨z1.heap.size, 0, none⟩) 2 2) rfl (.tmp 11) (.tmp 24) 22 22 rfl ?_ rfl rfl hr ?_; (with_reducible rfl); have ho2 : Hid (Off (fun q => (B ≤ q ∧ q < xb) ∨ V.heap.size ≤ q) V z2) := (cond_b (by repeat' (first | (with_reducible exact Off.refl _ _) | (with_reducible refine Off.alloc ?_ _) | (with_reducible refine Off.drew ?_))) H1.out.2.1 H1.out.2.2 (((Off.refl _ z1).alloc _).trans o2) HW.out.2.2.2.1); have HE : Hid (LayQ w B (.slice a0 bs.length c0) bs [bitI e, IntKind.u8.wrap x, IntKind.u8.wrap y] (.returned (.slice a2 (bs.length + 1 + 2) c2)) z2) := (cond_end HW.out.1 (by repeat' (first | (with_reducible exact Off.refl _ _) | (with_reducible refine Off.alloc ?_ _) | (with_reducible refine Off.drew ?_))) H1.out.2.1 H1.out.2.2 r2 (((Off.refl _ z1).alloc _).trans o2)); clear r2 o2; skip) | (obtain ⟨a2, c2, z2, hr, r2, o2⟩ := run_app (B := B) 2 H1.out.1 (byts_two ((Box.new V.drew #[.int .u8 (IntKind.u8.wrap x), .int .u8 (IntKind.u8.wrap y)] 5).off H1.out.2.1 (fun g => by have h1 := HW.out.2.2.2.1 _ g; have h2 := HW.out.2.2.2.2; simp at h1; omega))) (by rw [List.length_append]; have := HW.out.2.2.1; simp; omega) (by have h1 := HW.out.2.1; have h2 := (Hid.out ho1).size; omega); simp only [List.length_append, List.length_singleton] at hr; refine step_app_run3 (sv := .slice a1 (bs.length + 1) c1) (xv := .slice (some ⟨V.heap.size, 0, none⟩) 2 2) rfl (.tmp 11) (.tmp 24) 22 22 rfl ?_ rfl rfl hr ?_; (with_reducible rfl); have ho2 : Hid (Off (fun q => (B ≤ q ∧ q < xb) ∨ V.heap.size ≤ q) V z2) := (cond_b (by repeat' (first | (with_reducible exact Off.refl _ _) | (with_reducible refine Off.alloc ?_ _) | (with_reducible refine Off.drew ?_))) H1.out.2.1 H1.out.2.2 (o2) HW.out.2.2.2.1); have HE : Hid (LayQ w B (.slice a0 bs.length c0) bs [bitI e, IntKind.u8.wrap x, IntKind.u8.wrap y] (.returned (.slice a2 (bs.length + 1 + 2) c2)) z2) := (cond_end HW.out.1 (by repeat' (first | (with_reducible exact Off.refl _ _) | (with_reducible refine Off.alloc ?_ _) | (with_reducible refine Off.drew ?_))) H1.out.2.1 H1.out.2.2 r2 (o2)); clear r2 o2; skip))
  all_goals
    clear H1 HW HF gs
    go_wp2_with fail
    go_ret
    exact HE.out
end Go.Proofs.YtdjjologpodnkaaGreatDoor
