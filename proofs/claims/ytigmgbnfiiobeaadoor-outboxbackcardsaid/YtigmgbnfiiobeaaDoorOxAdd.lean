/-
  put and Add of a box.
-/
import Derived.Test.YtigmgbnfiiobeaaDoorOxDo3
namespace Go.Proofs.YtigmgbnfiiobeaaDoor
open Go.RowKit

section
variable {w w' : World} {b kb : Nat} {v : Value} {sq : Bool} {tr : Int} {ms : List Msg}
set_option maxRecDepth 100000 in
set_option maxHeartbeats 4000000 in
theorem bput_any {m : Msg} (h : Bx w b kb v sq tr ms) (hf : fi m.ct ms = none) (h32 : ms.length < 32) (hst : m.st = 0) (hlf : m.lf = 0) (hun : m.un = false) (hb : Byts w m.tp m.tn m.tx) (hpo : m.tp = none → m.tc = 0) (hm : m.tn ≤ 8192) :
    Calls Tryd.prog 19 #[.pointer (some ⟨b, 0, none⟩), .agg #[.string m.ct, .slice m.tp m.tn m.tc, .bool m.e, .int .i64 m.a, .int .i64 m.p, .int .i64 m.nu, .bool m.nt]] w fun e w' => e = .returned (.tuple #[]) ∧ ∃ a c, BxQ w b kb v sq tr (ms ++ [m.wi a c]) w' := by
  have hb0 : Below w.heap.size w (w.alloc (.cells #[.string m.ct, .slice m.tp m.tn m.tc, .bool m.e, .int .i64 m.a, .int .i64 m.p, .int .i64 m.nu, .bool m.nt] 45)) := (Below.refl _ _).alloc (Nat.le_refl _) _
  have hx0 := Box.new w #[.string m.ct, .slice m.tp m.tn m.tc, .bool m.e, .int .i64 m.a, .int .i64 m.p, .int .i64 m.nu, .bool m.nt] 45
  have HH : Hid (Bx (w.alloc (.cells #[.string m.ct, .slice m.tp m.tn m.tc, .bool m.e, .int .i64 m.a, .int .i64 m.p, .int .i64 m.nu, .bool m.nt] 45)) b kb v sq tr ms ∧ Below w.heap.size w (w.alloc (.cells #[.string m.ct, .slice m.tp m.tn m.tc, .bool m.e, .int .i64 m.a, .int .i64 m.p, .int .i64 m.nu, .bool m.nt] 45))) := ⟨h.below hb0, hb0⟩
  have hcp : Hid (∀ z, Below (w.alloc (.cells #[.string m.ct, .slice m.tp m.tn m.tc, .bool m.e, .int .i64 m.a, .int .i64 m.p, .int .i64 m.nu, .bool m.nt] 45)).heap.size (w.alloc (.cells #[.string m.ct, .slice m.tp m.tn m.tc, .bool m.e, .int .i64 m.a, .int .i64 m.p, .int .i64 m.nu, .bool m.nt] 45)) z → Calls Tryd.prog 23 #[.agg #[.string m.ct, .slice m.tp m.tn m.tc, .bool m.e, .int .i64 m.a, .int .i64 m.p, .int .i64 m.nu, .bool m.nt, .int .i64 0, .int .i64 0, .bool false]] z fun e z' => ∃ a c, e = .returned (.agg #[.string m.ct, .slice a m.tn c, .bool m.e, .int .i64 m.a, .int .i64 m.p, .int .i64 m.nu, .bool m.nt, .int .i64 0, .int .i64 0, .bool false]) ∧ Hid (BRow z' 0 (.slice a m.tn c) m.tx ∧ Below (w.alloc (.cells #[.string m.ct, .slice m.tp m.tn m.tc, .bool m.e, .int .i64 m.a, .int .i64 m.p, .int .i64 m.nu, .bool m.nt] 45)).heap.size (w.alloc (.cells #[.string m.ct, .slice m.tp m.tn m.tc, .bool m.e, .int .i64 m.a, .int .i64 m.p, .int .i64 m.nu, .bool m.nt] 45)) z' ∧ Below z.heap.size z z')) := fun z hz => by
    have := copied_any m z ((hb.below hb0).below hz) hpo (by omega)
    rw [hst, hlf, hun] at this
    exact this.mono fun e z' ⟨a, c, h1, h2, h3⟩ => ⟨a, c, h1, ERow.base h2 (Nat.zero_le _), below_then hz h3, h3⟩
  obtain ⟨V, hV⟩ : ∃ V, w.alloc (.cells #[.string m.ct, .slice m.tp m.tn m.tc, .bool m.e, .int .i64 m.a, .int .i64 m.p, .int .i64 m.nu, .bool m.nt] 45) = V := ⟨_, rfl⟩
  have hpt : Hid (∀ a c z, Below V.heap.size V z → Calls Tryd.prog 27 #[.pointer (some ⟨kb, 0, none⟩), .agg #[.string m.ct, .slice a m.tn c, .bool m.e, .int .i64 m.a, .int .i64 m.p, .int .i64 m.nu, .bool m.nt, .int .i64 0, .int .i64 0, .bool false]] z fun e z' => e = .returned (.tuple #[]) ∧ Hid (KdQ z kb v (ms ++ [m.wi a c]) z')) := fun a c z hz => by
    have hk : Kd z kb v ms := (by have := HH.out.1; rw [hV] at this; exact this.2.1 : Kd V kb v ms).below hz
    have := put_new hk (m.wi a c) hf h32
    rw [show putS (m.wi a c) ms = ms ++ [m.wi a c] by unfold putS; rw [show fi (m.wi a c).ct ms = none from hf]] at this
    have e2 : Value.agg #[.string (m.wi a c).ct, .slice (m.wi a c).tp (m.wi a c).tn (m.wi a c).tc, .bool (m.wi a c).e, .int .i64 (m.wi a c).a, .int .i64 (m.wi a c).p, .int .i64 (m.wi a c).nu, .bool (m.wi a c).nt, .int .i64 (m.wi a c).st, .int .i64 (m.wi a c).lf, .bool (m.wi a c).un] = .agg #[.string m.ct, .slice a m.tn c, .bool m.e, .int .i64 m.a, .int .i64 m.p, .int .i64 m.nu, .bool m.nt, .int .i64 0, .int .i64 0, .bool false] := by
      show Value.agg #[.string m.ct, .slice a m.tn c, .bool m.e, .int .i64 m.a, .int .i64 m.p, .int .i64 m.nu, .bool m.nt, .int .i64 m.st, .int .i64 m.lf, .bool m.un] = _
      rw [hst, hlf, hun]
    rw [e2] at this
    exact this
  have HM : Hid (m.tn ≤ 8192) := hm
  rw [hV] at HH hcp hx0
  have c0 := hcell HH.out.1.1 0
  have cx := hx0.cell
  have lb := HH.out.1.lt
  have lx := hx0.lt
  clear h hf h32 hst hlf hun hb hpo hm hb0
  go_enter Tryd.func19, Tryd.ntmps19
  go_wp2_with fail
  clear hV
  go_region_law (first | (go_simp; go_at_call 23; refine (hcp.out _ ?_).mono ?_; (repeat' (first | exact Below.refl _ _ | refine Below.drew ?_)); rintro _ w5 ⟨a5, c5, rfl, hh5⟩; have hc5 := (held_of hh5.out.2.1).cell; go_wp2_with fail) | (go_simp; go_at_call 27; refine (hpt.out _ _ _ ?_).mono ?_; (exact (Hid.out (by assumption : Hid (BRow _ _ _ _ ∧ _ ∧ _))).2.1); rintro _ w6 ⟨rfl, hh6⟩; go_wp2_with fail))
  all_goals
    go_wp2_with fail
    go_end0
    refine ⟨rfl, a5, c5, ?_⟩
    refine bxq_of (HH.out.1.below hh5.out.2.1) (below_then HH.out.2 hh5.out.2.1) hh6.out (fun y hy => ?_)
    rcases List.mem_append.1 hy with g | g
    · exact (HH.out.1.below hh5.out.2.1).2.2 y g
    · obtain rfl : y = m.wi a5 c5 := by simpa using g
      exact ⟨hh5.out.1, HM.out⟩
end
end Go.Proofs.YtigmgbnfiiobeaaDoor
