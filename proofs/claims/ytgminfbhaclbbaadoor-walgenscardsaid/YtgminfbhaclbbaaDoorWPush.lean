/-
  append of function values, as one step of a region that draws.
-/
import Derived.Test.YtgminfbhaclbbaaDoorRfNew
import Derived.Test.YtgminfbhaclbbaaDoorWFormat
namespace Go.Proofs.YtgminfbhaclbbaaDoor
open Go.RowKit Go.BigFrame

theorem infoStep : (Tryd.prog.info? 73).map (fun i => (i.size, i.bytes, i.zero.map (·.cells.size))) = some (1, 8, some 1) := by kernel_rfl
theorem step_fns {w : World} {B : Nat} {ops : Array Oper} {o : Oper} {a : Act} {K : Act → World → Prop} {Q : Exit → Act → World → Prop} {E : Prop} {v : Value} {xs news : List Value} {g n : Nat} (hgd : o.guard = none) (s y : Operand)
    (ho : o.op = .call { callee := .builtin .append, args := #[s, y], argTypes := #[75, 75] }) (hs : a.eval s = v) (hx : a.eval y = .slice (some ⟨g, 0, none⟩) n n)
    (hr : VRow w B 73 v xs) (hl : news.length = n) (hnews : ∀ j u, news[j]? = some u → w.cell? ⟨g, j, none⟩ = some u) (h1 : ∀ u ∈ news, u.oneCell' = true) (hn : 0 < n) (hb : xs.length + n ≤ 1000) (hB : B ≤ w.heap.size)
    (h : ∀ a' c' w', VRow w' B 73 (.slice a' (xs.length + n) c') (xs ++ news) → Off (fun k => v.ownBlock = some k) w w' → K (a.put o.dst (.slice a' (xs.length + n) c')) w') :
    if Region.wanted o (yielded ops a.tmps) = true then Oper.wp Tryd.prog o a w K Q else E := by
  have hw : Region.wanted o (yielded ops a.tmps) = true := by simp [Region.wanted, hgd]
  obtain ⟨i, hi, hm⟩ := Option.map_eq_some_iff.1 infoStep
  simp only [Prod.mk.injEq] at hm
  obtain ⟨m1, m2, m3⟩ := hm
  obtain ⟨z, hz, hzs⟩ := Option.map_eq_some_iff.1 m3
  obtain ⟨v', w', hrn, r, p⟩ := run_append_two (P := Tryd.prog) w B 75 o.type 73 i z 8 Tryd.underlying75 hi hz m1 m2 hzs v xs hr ⟨g, 0, none⟩ n n news hl (fun j u hu => by rw [Addr.add_lit, Nat.zero_add]; exact hnews j u hu) h1 (by unfold maxLen; omega) (by omega) hB
  rw [if_pos hw]
  unfold Oper.wp execOp
  simp only [ho, resolve, invoke, builtin, Sem.run_bind, Sem.run_pure, Result.andThen_ok, List.map_toArray, List.map_cons, List.map_nil, hs, hx, hrn]
  cases p with
  | same g' cap hv hv' hg => subst hv'; exact h _ _ _ r (by rw [hv]; exact Off.of_grown hg)
  | idle hv hm hw => omega
  | fresh cap hv' hg hs' => subst hv'; exact h _ _ _ r ((Off.of_grown hg).mono (fun k e => by cases e))
end Go.Proofs.YtgminfbhaclbbaaDoor
