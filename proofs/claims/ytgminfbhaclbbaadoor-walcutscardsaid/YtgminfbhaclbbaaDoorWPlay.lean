/-
  The log's play: steps one behind the other.
-/
import Derived.Test.YtgminfbhaclbbaaDoorWStep
import Derived.Test.YtgminfbhaclbbaaDoorWalErr
import Derived.Shelf.Abstract
namespace Go.Proofs.YtgminfbhaclbbaaDoor
open Go.RowKit Go.BigFrame

theorem wrefused_any {b : Nat} (w : World) : Calls Tryd.prog 54 #[.iface 98 (.pointer (some ⟨b, 0, none⟩))] w fun e w' => e = .returned (.iface 98 (.pointer (some ⟨w.heap.size, 0, none⟩))) ∧ w' = w.alloc (.cells #[.string ⟨#[119, 97, 108]⟩, .int .i64 0, .int .i64 63, .iface 98 (.pointer (some ⟨b, 0, none⟩))] 102) := by
  go_enter Tryd.func54, Tryd.ntmps54
  go_wp2_with fail
  go_ret
  exact ⟨rfl, rfl⟩
/-- An error of play's: a step's, and it stands under. -/
def PErr (F : Nat → Nat → World → Prop) (n : Nat) (e : Ending) (w' : World) : Prop := ∃ j b x, j < n ∧ F j b x ∧ e = .returned (.iface 98 (.pointer (some ⟨x.heap.size, 0, none⟩))) ∧ w' = x.alloc (.cells #[.string ⟨#[119, 97, 108]⟩, .int .i64 0, .int .i64 63, .iface 98 (.pointer (some ⟨b, 0, none⟩))] 102)
set_option maxRecDepth 100000 in
set_option maxHeartbeats 4000000 in
theorem play_any {w : World} {g n cap : Nat} {I : Nat → World → Prop} {F : Nat → Nat → World → Prop} (hI : ∀ j x, j < n → I j x → ∃ f caps, x.cell? ⟨g, j, none⟩ = some (.func (.func f) #[] caps) ∧ Enters Tryd.prog f ∧ Calls Tryd.prog f caps x fun e x' => (e = .returned .nilIface ∧ I (j + 1) x') ∨ (∃ b, e = .returned (.iface 98 (.pointer (some ⟨b, 0, none⟩))) ∧ F j b x')) (hn : n ≤ 1048576) (h0 : I 0 w) :
    Calls Tryd.prog 35 #[.slice (some ⟨g, 0, none⟩) n cap] w fun e w' => (e = .returned .nilIface ∧ I n w') ∨ PErr F n e w' := by
  have HI : Hid (∀ j x, j < n → I j x → ∃ f caps, x.cell? ⟨g, j, none⟩ = some (.func (.func f) #[] caps) ∧ Enters Tryd.prog f ∧ Calls Tryd.prog f caps x fun e x' => (e = .returned .nilIface ∧ I (j + 1) x') ∨ (∃ b, e = .returned (.iface 98 (.pointer (some ⟨b, 0, none⟩))) ∧ F j b x')) := hI
  have H0 : Hid (I 0 w) := h0
  clear hI h0
  go_enter Tryd.func35, Tryd.ntmps35
  go_wp2_with fail
  go_loopw [4, 5, 8] (fun t4 t5 t8 wx => ∃ i : Nat, i ≤ n ∧ t8 = .int .i64 i ∧ Hid (I i wx)) (fun _ _ t8 _ => n - (intOf t8).toNat)
  case atStart => exact ⟨0, Nat.zero_le _, rfl, H0⟩
  case round =>
    obtain ⟨i, hi, rfl, HR⟩ := hrel
    by_cases hlt : i < n
    · have hlti : (i : Int) < n := by omega
      obtain ⟨f, caps, hc, hen, hcall⟩ := HI.out i wr hlt HR.out
      have hen' : ∀ (args : Array Value) (x : World), (callFunc f args).run Tryd.prog x = .ok (.enter f args) x := hen
      clear hen
      have HC : Hid (Calls Tryd.prog f caps wr fun e x' => (e = .returned .nilIface ∧ I (i + 1) x') ∨ (∃ b, e = .returned (.iface 98 (.pointer (some ⟨b, 0, none⟩))) ∧ F i b x')) := hcall
      clear hcall
      go_wp2_with fail
      refine HC.out.mono ?_
      rintro e x' (⟨rfl, hx⟩ | ⟨b, rfl, hf⟩)
      · have HX : Hid (I (i + 1) x') := hx
        clear hx HC HR
        go_wp2_with fail
        go_roundw
        case rel => exact ⟨i + 1, hlt, by go_num, HX⟩
        case measure => simp [intOf]; omega
      · have HX : Hid (F i b x') := hf
        clear hf HC HR
        go_wp2_with fail
        refine (wrefused_any _).mono ?_
        rintro e x2 ⟨rfl, hx2⟩
        go_wp2_with fail
        go_ret
        exact Or.inr ⟨i, b, x', hlt, HX.out, rfl, rfl⟩
    · have hlti : ¬ (i : Int) < n := by omega
      have hin : i = n := by omega
      subst hin
      go_wp2_with fail
      go_ret
      exact Or.inl ⟨rfl, HR.out⟩
end Go.Proofs.YtgminfbhaclbbaaDoor
