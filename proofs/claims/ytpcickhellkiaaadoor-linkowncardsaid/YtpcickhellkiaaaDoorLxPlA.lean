/-
  The law's plays, whatever is called.
-/
import Derived.Test.YtpcickhellkiaaaDoorLxPl1
import Derived.Test.YtpcickhellkiaaaDoorLxPl2
import Derived.Test.YtpcickhellkiaaaDoorLxPl3
import Derived.Test.YtpcickhellkiaaaDoorLxPl4
import Derived.Test.YtpcickhellkiaaaDoorLxPl5
import Derived.Test.YtpcickhellkiaaaDoorLxPl6
import Derived.Test.YtpcickhellkiaaaDoorLxPl7
import Derived.Test.YtpcickhellkiaaaDoorLxPlO
namespace Go.Proofs.YtpcickhellkiaaaDoor
open Go.RowKit

/-- What a call leaves. -/
def opS (kd sd ix nn : Int) (bs : List Int) (σ : LSt) : LSt :=
  if kd = 1 ∨ kd = 7 then cS (fun c => sendC c bs) σ sd else if kd = 2 then cS (fun c => carC c ix nn) σ sd else if kd = 3 then cS (fun c => dropC c ix) σ sd else if kd = 4 then cS (fun c => dblC c ix) σ sd else if kd = 5 then cS (fun c => clipC c ix nn) σ sd else if kd = 6 then cS (fun c => noiseC c bs) σ sd else σ
theorem SOk.op {σ : LSt} (h : SOk σ) (kd sd ix nn : Int) (bs : List Int) : SOk (opS kd sd ix nn bs σ) := by
  unfold opS
  repeat' split
  · exact h.step (fun c hc => hc.send) sd
  · exact h.step (fun c hc => hc.car) sd
  · exact h.step (fun c hc => hc.drop) sd
  · exact h.step (fun c hc => hc.dbl) sd
  · exact h.step (fun c hc => hc.clip) sd
  · exact h.step (fun c hc => hc.noise) sd
  · exact h
theorem plays_any {w0 X : World} {l : Option Addr} {rb : Nat} {F G : Nat → Prop} {σ : LSt} (h : PR w0 X l rb F G σ σ) (ho : SOk σ) (hE : ErrType w0) (kd sd ix nn : Int) {po : Option Addr} {m c : Nat} {bs : List Int} (hb : Byts w0 po m bs) (hm : m + 90 ≤ 140737488355328) : Calls Tryd.prog 24 #[.pointer l, .pointer (some ⟨rb, 0, none⟩), .agg #[.int .i64 kd, .int .i64 sd, .int .i64 ix, .int .i64 nn, .slice po m c]] X fun e w' => e = .returned (.bool true) ∧ Hid (PRq w0 X l rb F G (opS kd sd ix nn bs σ) (opS kd sd ix nn bs σ) w') := by
  by_cases h1 : kd = 1
  · subst h1; exact (pl_1 h ho hE sd ix nn hb hm).mono fun _ _ e => e
  by_cases h7 : kd = 7
  · subst h7; exact (pl_7 h ho hE sd ix nn hb hm).mono fun _ _ e => e
  by_cases h2 : kd = 2
  · subst h2; exact (pl_2 h ho hE sd ix nn hb hm).mono fun _ _ e => e
  by_cases h3 : kd = 3
  · subst h3; exact (pl_3 h ho hE sd ix nn hb hm).mono fun _ _ e => e
  by_cases h4 : kd = 4
  · subst h4; exact (pl_4 h ho hE sd ix nn hb hm).mono fun _ _ e => e
  by_cases h5 : kd = 5
  · subst h5; exact (pl_5 h ho hE sd ix nn hb hm).mono fun _ _ e => e
  by_cases h6 : kd = 6
  · subst h6; exact (pl_6 h ho hE sd ix nn hb hm).mono fun _ _ e => e
  have e : opS kd sd ix nn bs σ = σ := by unfold opS; rw [if_neg (by omega), if_neg h2, if_neg h3, if_neg h4, if_neg h5, if_neg h6]
  rw [e]
  exact (pl_O h ho hE kd sd ix nn hb hm (by omega)).mono fun _ _ e => e
end Go.Proofs.YtpcickhellkiaaaDoor
