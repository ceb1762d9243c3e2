/-
  InboxKeeps: goes, there.
-/
import Derived.Test.YtnpndbehbcaghaaDoorIbKeepM
namespace Go.Proofs.YtnpndbehbcaghaaDoor
open Go.RowKit

theorem gset_len (l : List Bk) (f : Nat) : (gset l f).length = l.length := by
  unfold gset
  split <;> simp
/-- The list and who went, when those from k on were gone through. -/
def gsK (l : List Bk) (f k : Nat) : List Bk := if k ≤ f then gset l f else l
def gwK (l : List Bk) (f k : Nat) : List ByteArray := if k ≤ f then goW l f else []
theorem gs_at {l : List Bk} {f k i : Nat} (hi : i < k) : (gsK l f k)[i]? = l[i]? := by
  unfold gsK
  split
  · rename_i h
    unfold gset
    split
    · rw [List.getElem?_set_ne (by omega)]
    · rfl
  · rfl
theorem ks_set {w : World} {B n c g i : Nat} {l : List Bk} {b : Bk} (h : KRow w B (.slice (some ⟨g, 0, none⟩) n c) l) (hb : l[i]? = some b) (j : Nat) (hj : j = 1 ∨ j = 2) (v : Bool) : KRow (w.setCell ⟨g, i * 3 + j, none⟩ (.bool v)) B (.slice (some ⟨g, 0, none⟩) n c) (l.set i (if j = 1 then { b with de := v } else { b with go := v })) := by
  have hl := (List.getElem?_eq_some_iff.1 hb).1
  have hn := ERow.len h
  have h' : w.ownsRow B 42 3 (.slice (some ⟨g, 0, none⟩) n c) n (l.flatMap encK) := by
    have := h
    unfold KRow ERow at this
    rw [← hn] at this
    exact this
  have key : ∀ (l : List Bk) (i : Nat) (b : Bk), l[i]? = some b → setAll (l.flatMap encK) (i * 3 + j) [.bool v] = (l.set i (if j = 1 then { b with de := v } else { b with go := v })).flatMap encK := by
    intro l
    induction l with
    | nil => intro i b h; simp at h
    | cons y r ih =>
      intro i b h
      cases i with
      | zero =>
        simp only [List.getElem?_cons_zero, Option.some.injEq] at h
        subst h
        rw [List.flatMap_cons, List.set_cons_zero, List.flatMap_cons]
        rcases hj with rfl | rfl <;> simp [encK, setAll]
      | succ i =>
        rw [List.getElem?_cons_succ] at h
        rw [List.flatMap_cons, List.set_cons_succ, List.flatMap_cons, show (i + 1) * 3 + j = (encK y).length + (i * 3 + j) by rw [encK_len]; omega, setAll_app, ih i b h]
  have := own_setCells [.bool v] (i * 3 + j) w _ h'
  rw [key l i b hb] at this
  unfold KRow ERow
  rw [List.length_set, ← hn]
  exact this
structure GoI (w : World) (g n c : Nat) (K : Int) (l : List Bk) (f : Nat) (k : Nat) (t5 : Value) (m : Int) (wx : World) : Prop where
  row : KRow wx 0 (.slice (some ⟨g, 0, none⟩) n c) (gsK l f k)
  wen : TRow wx w.heap.size t5 (gwK l f k)
  cnt : m = ((l.drop k).countP (·.de) : Int)
  off : Off (fun q => q = g) w wx
theorem dcN_eq {l : List Bk} {i : Nat} {b : Bk} (hb : l[i]? = some b) : ((l.drop i).countP (·.de) : Nat) = dcN l i + (if b.de = true then 1 else 0) := by
  obtain ⟨hi, rfl⟩ := List.getElem?_eq_some_iff.1 hb
  unfold dcN
  rw [← List.getElem_cons_drop hi, List.countP_cons]
section
variable {w : World} {B g n c : Nat} {l : List Bk} {K : Int} {f : Nat}
set_option maxRecDepth 100000 in
set_option maxHeartbeats 4000000 in
theorem goes_any (h : KRow w B (.slice (some ⟨g, 0, none⟩) n c) l) (hn6 : n ≤ 1000000) (hf : ∀ i b, l[i]? = some b → gc K l i b = decide (i = f)) : Calls Tryd.prog 15 #[.slice (some ⟨g, 0, none⟩) n c, .int .i64 K] w fun r w' => ∃ u, r = .returned u ∧ TRow w' w.heap.size u (goW l f) ∧ KRow w' B (.slice (some ⟨g, 0, none⟩) n c) (gset l f) ∧ Off (fun q => q = g) w w' := by
  have hB : B ≤ g := by
    rcases ERow.form h with ⟨e, _⟩ | ⟨g', cap, e, h1, _⟩
    · cases e
    · simp only [Value.slice.injEq, Option.some.injEq, Addr.mk.injEq, and_true] at e
      omega
  have hln := (ERow.len h).symm
  have hgl : g < w.heap.size := (ERow.lt h (g := g) rfl).2
  have HH : Hid (KRow w B (.slice (some ⟨g, 0, none⟩) n c) l ∧ l.length = n ∧ (∀ i b, l[i]? = some b → gc K l i b = decide (i = f)) ∧ B ≤ g ∧ g < w.heap.size) := ⟨h, hln, hf, hB, hgl⟩
  have H0 : Hid (GoI w g n c K l f n (.slice none 0 0) 0 w) := by
    have h1 : gsK l f n = l := by
      unfold gsK
      split
      · rename_i hf2
        unfold gset
        rw [List.getElem?_eq_none (by omega)]
      · rfl
    have h2 : gwK l f n = [] := by
      unfold gwK
      split
      · rename_i hf2
        unfold goW
        rw [List.getElem?_eq_none (by omega)]
      · rfl
    exact ⟨by rw [h1]; exact ERow.base h (Nat.zero_le _), by rw [h2]; exact ERow.nil _ _ _ _ _, by rw [List.drop_eq_nil_of_le (by omega)]; rfl, Off.refl _ _⟩
  have q0 : IntKind.i64.wrap ((n : Int) - 1) = (n : Int) - 1 := by rw [IntKind.wrap_i64]; omega
  clear h hln hf hB hgl
  go_enter Tryd.func15, Tryd.ntmps15
  go_wp2_with fail
  go_loopw [5, 6, 7] (fun t5 t6 t7 wx => ∃ (k : Nat) (m z : Int), k ≤ n ∧ z = (k : Int) - 1 ∧ t7 = .int .i64 z ∧ t6 = .int .i64 m ∧ Hid (GoI w g n c K l f k t5 m wx)) (fun _ _ t7 _ => (intOf t7 + 1).toNat)
  case atStart => exact ⟨n, 0, (n : Int) - 1, Nat.le_refl _, rfl, rfl, rfl, H0⟩
  case round =>
    obtain ⟨k, m, z, hk, hz, rfl, rfl, HI⟩ := hrel
    rcases Nat.eq_zero_or_pos k with hk0 | hk0
    · have q1 : ¬ z ≥ 0 := by omega
      subst hk0
      have HZ : Hid (TRow wr w.heap.size u5 (goW l f) ∧ KRow wr B (.slice (some ⟨g, 0, none⟩) n c) (gset l f) ∧ Off (fun q => q = g) w wr) := by
        have h1 := HI.out.row
        have h2 := HI.out.wen
        unfold gsK at h1
        unfold gwK at h2
        rw [if_pos (Nat.zero_le _)] at h1 h2
        refine ⟨h2, ?_, HI.out.off⟩
        rcases h1.2 with ⟨e, _⟩ | ⟨g', cap, cur, e, _, r⟩
        · cases e
        · simp only [Value.slice.injEq, Option.some.injEq, Addr.mk.injEq, and_true] at e
          exact ⟨h1.1, Or.inr ⟨g', cap, cur, by rw [e.1, e.2.1, e.2.2], by rw [← e.1]; exact HH.out.2.2.2.1, r⟩⟩
      clear HI hz
      go_wp2_with fail
      go_ret
      exact ⟨u5, rfl, HZ.out.1, HZ.out.2.1, HZ.out.2.2⟩
    · obtain ⟨i, rfl⟩ : ∃ i, k = i + 1 := ⟨k - 1, by omega⟩
      obtain rfl : z = (i : Int) := by omega
      clear hz
      have q1 : (i : Int) ≥ 0 := by omega
      have q2 : (i : Int) < n := by omega
      have q3 : IntKind.i64.wrap ((i : Int) - 1) = (i : Int) - 1 := by rw [IntKind.wrap_i64]; omega
      obtain ⟨b, hb⟩ : ∃ b, l[i]? = some b := ⟨_, List.getElem?_eq_getElem (by rw [HH.out.2.1]; omega)⟩
      have hb2 : (gsK l f (i + 1))[i]? = some b := by rw [gs_at (Nat.lt_succ_self i)]; exact hb
      obtain ⟨g', eg, hg, d0, d1, d2⟩ := krow_at HI.out.row hb2
      obtain rfl : g = g' := by simpa using eg
      have hgc := HH.out.2.2.1 i b hb
      have hcnt := dcN_eq hb
      have hmm : m = (dcN l i : Int) := by rw [HI.out.cnt]; rfl
      have hmb : 0 ≤ m ∧ m ≤ 1000000 := by
        have : dcN l i ≤ l.length := by
          unfold dcN
          exact Nat.le_trans List.countP_le_length (by rw [List.length_drop]; omega)
        have := HH.out.2.1
        omega
      have q4 : IntKind.i64.wrap (m + 1) = m + 1 := by rw [IntKind.wrap_i64]; omega
      clear hmb
      have fz := ERow.thaw HI.out.row (i * 3 + 2)
      have same : ¬ i = f → GoI w g n c K l f i u5 (m + (if b.de = true then 1 else 0)) wr := fun hne => by
        have e1 : gsK l f i = gsK l f (i + 1) := by
          unfold gsK
          by_cases h1 : i + 1 ≤ f
          · rw [if_pos h1, if_pos (by omega)]
          · rw [if_neg h1, if_neg (by omega)]
        have e2 : gwK l f i = gwK l f (i + 1) := by
          unfold gwK
          by_cases h1 : i + 1 ≤ f
          · rw [if_pos h1, if_pos (by omega)]
          · rw [if_neg h1, if_neg (by omega)]
        exact ⟨by rw [e1]; exact HI.out.row, by rw [e2]; exact HI.out.wen, by rw [hcnt, hmm]; split <;> simp, HI.out.off⟩
      have HSM : Hid (¬ i = f → GoI w g n c K l f i u5 (m + (if b.de = true then 1 else 0)) wr) := same
      clear same
      cases hde : b.de with
      | false =>
        have hne : ¬ i = f := fun e => by
          unfold gc at hgc
          rw [hde, decide_eq_true e] at hgc
          cases hgc
        have HI2 : Hid (GoI w g n c K l f i u5 m wr) := by
          have := HSM.out hne
          rw [hde] at this
          unfold Hid
          simpa using this
        rw [hde] at d1
        clear hde hgc hcnt hmm hne hb hb2 eg HI HSM
        go_wp2_with fail
        go_roundw
        case rel => exact ⟨i, m, (i : Int) - 1, by omega, rfl, rfl, rfl, HI2⟩
        case measure => (simp [intOf]; try omega)
      | true =>
        rw [hde] at d1
        by_cases hif : i = f
        · have hgt : b.go = false ∧ K < m := by
            unfold gc at hgc
            rw [hde, decide_eq_true hif] at hgc
            simp only [Bool.true_and, Bool.and_eq_true, Bool.not_eq_true', decide_eq_true_eq] at hgc
            exact ⟨hgc.1, by omega⟩
          have q5 : m > K := hgt.2
          rw [hgt.1] at d2
          obtain ⟨a5, c5, e5, _⟩ := ERow.isSlice HI.out.wen
          have e6 : gwK l f (i + 1) = [] := by unfold gwK; rw [if_neg (by omega)]
          have e7 : gsK l f (i + 1) = l := by unfold gsK; rw [if_neg (by omega)]
          have e8 : gwK l f i = [b.ct] := by unfold gwK goW; rw [if_pos (by omega), ← hif, hb]
          have e9 : gsK l f i = l.set i { b with go := true } := by unfold gsK gset; rw [if_pos (by omega), ← hif, hb]
          have hrow := HI.out.row
          have hwen := HI.out.wen
          rw [e7] at hrow
          rw [e6] at hwen e5
          have hrow2 := ks_set hrow hb 2 (Or.inr rfl) true
          rw [if_neg (by decide)] at hrow2
          have o2 : Off (fun q => q = g) wr (wr.setCell ⟨g, i * 3 + 2, none⟩ (.bool true)) := Off.setCell (P := fun q => q = g) (Off.refl _ _) (p := ⟨g, i * 3 + 2, none⟩) rfl _
          have hwen2 : TRow (wr.setCell ⟨g, i * 3 + 2, none⟩ (.bool true)) w.heap.size u5 [] := ERow.off hwen o2 fun q hq e => by
            have h1 := (ERow.lt hwen hq).1
            have h2 := HH.out.2.2.2.2
            omega
          obtain ⟨V, hV⟩ : ∃ V, wr.setCell ⟨g, i * 3 + 2, none⟩ (.bool true) = V := ⟨_, rfl⟩
          have d0V : V.cell? ⟨g, i * 3, none⟩ = some (.string b.ct) := by rw [← hV, World.cell?_setCell_other _ _ _ _ (by simp)]; exact d0
          rw [hV] at hrow2 o2 hwen2
          have hsz : w.heap.size ≤ V.heap.size := Nat.le_trans HI.out.off.size o2.size
          obtain ⟨a2, c2, W2, hap, r2, o3, _⟩ := run_epush (P := Tryd.prog) (t := 37) Tryd.underlying37 celSt encS_len encS_one (w := V) hwen2 b.ct #[.string b.ct] rfl (by simp) (by decide) hsz
          have HI2 : Hid (GoI w g n c K l f i (.slice a2 1 c2) (m + 1) W2) := by
            refine ⟨?_, ?_, ?_, ?_⟩
            · rw [e9]
              exact hrow2.off o3 fun q hq e => own_ne hwen2 hrow2 (by decide) q e hq
            · rw [e8]; exact r2
            · rw [hcnt, hmm, hde]; simp
            · refine (HI.out.off.trans o2).join o3 fun q hq hv => ?_
              have := (ERow.lt hwen2 hv).1
              omega
          rw [e5] at hap ⊢
          simp only [List.length_nil, Nat.zero_add] at hap ⊢
          clear hde hgc hcnt hmm hb hb2 eg HI HSM hgt e5 e6 e7 e8 e9 hrow hwen hrow2 o2 hwen2 r2 o3 hsz hif
          go_wp2_with (at_builtin; refine wpList_append_run rfl (.tmp 35) (.tmp 41) 37 _ rfl hap ?_)
          go_roundw
          case rel => exact ⟨i, m + 1, (i : Int) - 1, by omega, rfl, rfl, rfl, HI2⟩
          case measure => (simp [intOf]; try omega)
        · have HI2 : Hid (GoI w g n c K l f i u5 (m + 1) wr) := by
            have := HSM.out hif
            rw [hde] at this
            unfold Hid
            simpa using this
          have hgt : b.go = true ∨ (b.go = false ∧ ¬ m > K) := by
            unfold gc at hgc
            rw [hde, decide_eq_false hif] at hgc
            simp only [Bool.true_and] at hgc
            cases hgo : b.go with
            | true => exact Or.inl rfl
            | false =>
              rw [hgo] at hgc
              simp only [Bool.not_false, Bool.true_and, decide_eq_false_iff_not] at hgc
              exact Or.inr ⟨rfl, by omega⟩
          clear hde hgc hcnt hmm hb hb2 eg HI HSM hif
          rcases hgt with hgo | ⟨hgo, q5⟩
          · rw [hgo] at d2
            clear hgo
            go_wp2_with fail
            go_roundw
            case rel => exact ⟨i, m + 1, (i : Int) - 1, by omega, rfl, rfl, rfl, HI2⟩
            case measure => (simp [intOf]; try omega)
          · rw [hgo] at d2
            clear hgo
            go_wp2_with fail
            go_roundw
            case rel => exact ⟨i, m + 1, (i : Int) - 1, by omega, rfl, rfl, rfl, HI2⟩
            case measure => (simp [intOf]; try omega)
end
end Go.Proofs.YtnpndbehbcaghaaDoor
