import Derived.Test.YthnpckmgnompiaaGreatDoorWCutP
/-
  A generation of which bytes are missing at the end is none.
-/
namespace Go.Proofs.YthnpckmgnompiaaGreatDoor
open Go.RowKit Go.BigFrame

theorem rc_low0 {R : List Int} {le mo : Nat} (h : valN (R.take 4) < le) : rcS R le mo = none := by
  unfold rcS
  split
  · rfl
  · rw [if_pos (Or.inl h)]
theorem rc_turned0 {R : List Int} {le mo : Nat} (h : (valN ((R.drop 4).take 4) : Int) ≠ bits .xor .u64 (valN (R.take 4)) 4294967295) : rcS R le mo = none := by
  unfold rcS
  split
  · rfl
  · rw [if_pos (Or.inr (Or.inr h))]
theorem rc_end0 {R : List Int} {le mo : Nat} (h : R.getD (12 + valN (R.take 4)) 0 ≠ 165) : rcS R le mo = none := by
  unfold rcS
  split
  · rfl
  · split
    · rfl
    · rw [if_pos (Or.inl h)]
/-- A snapshot's record, torn. -/
theorem rc_torn0 {r : List Int} {p z le mo : Nat} (h2 : r.length ≤ 2097152) (hp : p < (recB r).length) : rcS ((recB r).take p ++ List.replicate z 0) le mo = none := by
  have hl : (recB r).length = r.length + 13 := recB_len r
  have lt : ((recB r).take p).length = p := by rw [List.length_take]; omega
  by_cases h13 : ((recB r).take p ++ List.replicate z (0 : Int)).length < 13
  · exact rc_short h13
  rw [List.length_append, lt, List.length_replicate] at h13
  by_cases hp4 : 4 ≤ p
  · have e1 : ((recB r).take p ++ List.replicate z (0 : Int)).take 4 = be4 r.length := by
      rw [List.take_append_of_le_length (by omega), List.take_take, Nat.min_eq_left hp4]
      unfold recB
      exact List.take_left' rfl
    have v1 : valN (be4 (r.length : Int)) = r.length := by have := val4 (x := (r.length : Int)) (by omega) (by omega); omega
    refine rc_end0 ?_
    rw [e1, v1]
    have : ((recB r).take p ++ List.replicate z (0 : Int)).getD (12 + r.length) 0 = 0 := by
      rw [List.getD_eq_getElem?_getD, List.getElem?_append_right (by omega), List.getElem?_replicate]
      split <;> rfl
    rw [this]
    decide
  · obtain ⟨z', hz'⟩ : ∃ z', z = z' + (13 - p) := ⟨z - (13 - p), by omega⟩
    obtain ⟨b0, hb0⟩ : ∃ b : Int, (r.length : Int) / 16777216 % 256 = b := ⟨_, rfl⟩
    obtain ⟨b1, hb1⟩ : ∃ b : Int, (r.length : Int) / 65536 % 256 = b := ⟨_, rfl⟩
    obtain ⟨b2, hb2⟩ : ∃ b : Int, (r.length : Int) / 256 % 256 = b := ⟨_, rfl⟩
    obtain ⟨b3, hb3⟩ : ∃ b : Int, (r.length : Int) % 256 = b := ⟨_, rfl⟩
    obtain ⟨tl, htl⟩ : ∃ l, be4 (bits BinOp.xor IntKind.u64 r.length 4294967295) ++ (be4 (sumI r) ++ (r ++ [165])) = l := ⟨_, rfl⟩
    have er : recB r = b0 :: b1 :: b2 :: b3 :: tl := by
      rw [← htl]
      show be4 _ ++ _ = _
      unfold be4
      rw [hb0, hb1, hb2, hb3]
      rfl
    subst hz'
    rw [er]
    refine rc_turned0 ?_
    match p, hp4 with
    | 0, _ =>
      have e : List.replicate (z' + (13 - 0)) (0 : Int) = 0 :: 0 :: 0 :: 0 :: 0 :: 0 :: 0 :: 0 :: List.replicate (z' + 5) 0 := rfl
      rw [e]
      have v1 : valN ((List.take 0 (b0 :: b1 :: b2 :: b3 :: tl) ++ 0 :: 0 :: 0 :: 0 :: 0 :: 0 :: 0 :: 0 :: List.replicate (z' + 5) 0).take 4) = 0 := by simp [valN]
      have v2 : valN (((List.take 0 (b0 :: b1 :: b2 :: b3 :: tl) ++ 0 :: 0 :: 0 :: 0 :: 0 :: 0 :: 0 :: 0 :: List.replicate (z' + 5) 0).drop 4).take 4) = 0 := by simp [valN]
      rw [v1, v2]
      exact fun h => xor_ne (by omega) h.symm
    | 1, _ =>
      have e : List.replicate (z' + (13 - 1)) (0 : Int) = 0 :: 0 :: 0 :: 0 :: 0 :: 0 :: 0 :: List.replicate (z' + 5) 0 := rfl
      rw [e]
      have v1 : valN ((List.take 1 (b0 :: b1 :: b2 :: b3 :: tl) ++ 0 :: 0 :: 0 :: 0 :: 0 :: 0 :: 0 :: List.replicate (z' + 5) 0).take 4) = b0.toNat * 256 * 256 * 256 := by simp [valN]
      have v2 : valN (((List.take 1 (b0 :: b1 :: b2 :: b3 :: tl) ++ 0 :: 0 :: 0 :: 0 :: 0 :: 0 :: 0 :: List.replicate (z' + 5) 0).drop 4).take 4) = 0 := by simp [valN]
      rw [v1, v2]
      exact fun h => xor_ne (by omega) h.symm
    | 2, _ =>
      have e : List.replicate (z' + (13 - 2)) (0 : Int) = 0 :: 0 :: 0 :: 0 :: 0 :: 0 :: List.replicate (z' + 5) 0 := rfl
      rw [e]
      have v1 : valN ((List.take 2 (b0 :: b1 :: b2 :: b3 :: tl) ++ 0 :: 0 :: 0 :: 0 :: 0 :: 0 :: List.replicate (z' + 5) 0).take 4) = (b0.toNat * 256 + b1.toNat) * 256 * 256 := by simp [valN]
      have v2 : valN (((List.take 2 (b0 :: b1 :: b2 :: b3 :: tl) ++ 0 :: 0 :: 0 :: 0 :: 0 :: 0 :: List.replicate (z' + 5) 0).drop 4).take 4) = 0 := by simp [valN]
      rw [v1, v2]
      exact fun h => xor_ne (by omega) h.symm
    | 3, _ =>
      have e : List.replicate (z' + (13 - 3)) (0 : Int) = 0 :: 0 :: 0 :: 0 :: 0 :: List.replicate (z' + 5) 0 := rfl
      rw [e]
      have v1 : valN ((List.take 3 (b0 :: b1 :: b2 :: b3 :: tl) ++ 0 :: 0 :: 0 :: 0 :: 0 :: List.replicate (z' + 5) 0).take 4) = ((b0.toNat * 256 + b1.toNat) * 256 + b2.toNat) * 256 := by simp [valN]
      have v2 : valN (((List.take 3 (b0 :: b1 :: b2 :: b3 :: tl) ++ 0 :: 0 :: 0 :: 0 :: 0 :: List.replicate (z' + 5) 0).drop 4).take 4) = 0 := by simp [valN]
      rw [v1, v2]
      exact fun h => xor_ne (by omega) h.symm
    | p + 4, h => omega
theorem head_end (x : Int) : (headB x).getD 16 0 = 165 := rfl
/-- A head, torn. -/
theorem hd_torn {g : Int} {p z : Nat} (hp : p < 17) : hdS ((headB g).take p ++ List.replicate z 0) = none := by
  have lt : ((headB g).take p).length = p := by rw [List.length_take, headB_len]; omega
  unfold hdS
  split
  · rfl
  · rename_i h17
    rw [List.length_append, lt, List.length_replicate] at h17
    have hne : ∀ x : Int, ((headB g).take p ++ List.replicate z (0 : Int)).take 17 ≠ headB x := fun x h => by
      have h1 := congrArg (fun l => l.getD 16 0) h
      simp only [head_end] at h1
      rw [List.getD_eq_getElem?_getD, List.getElem?_take_of_lt (by omega), List.getElem?_append_right (by omega), List.getElem?_replicate] at h1
      split at h1 <;> simp at h1
    rw [if_pos (by first | exact Or.inr (Or.inr (hne _)) | exact Or.inr (hne _) | exact Or.inl (hne _))]
/-- A generation, torn. -/
theorem ps_torn {g : Nat} {sn : List Int} {p z : Nat} {ar : Int} (h0 : 1 ≤ g) (h1 : g ≤ 4611686018427387904) (h2 : sn.length ≤ 2097152) (hp : p < 30 + sn.length) : psS ((headB g ++ recB sn).take p ++ List.replicate z 0) ar = none := by
  by_cases h17 : p < 17
  · have e : (headB (g : Int) ++ recB sn).take p = (headB (g : Int)).take p := List.take_append_of_le_length (by rw [headB_len]; omega)
    unfold psS
    rw [e, hd_torn h17]
  · obtain ⟨q, rfl⟩ : ∃ q, p = 17 + q := ⟨p - 17, by omega⟩
    have e : (headB (g : Int) ++ recB sn).take (17 + q) = headB (g : Int) ++ (recB sn).take q := by
      have := List.take_length_add_append (l₁ := headB (g : Int)) (l₂ := recB sn) (i := q)
      rw [headB_len] at this
      exact this
    rw [e, List.append_assoc]
    unfold psS
    rw [hd_head h0 h1]
    simp only
    split
    · rfl
    · rw [List.drop_left' (headB_len _), rc_torn0 h2 (by rw [recB_len]; omega)]
end Go.Proofs.YthnpckmgnompiaaGreatDoor

/-
  What a Compact that is stopped at a write leaves of the disk, and a crash of that; of no program.
-/
namespace Go.Proofs.YthnpckmgnompiaaGreatDoor
open Go.RowKit Go.BigFrame

/-- The log's area: these records. -/
def oldB (rs : List (List Int)) : List Int := headB 1 ++ (recB [] ++ recsB rs)
/-- The next generation's bytes. -/
def newB (sn : List Int) : List Int := headB 2 ++ recB sn
theorem oldB_len (rs : List (List Int)) : (oldB rs).length = 30 + sizes rs := by
  unfold oldB
  rw [List.length_append, List.length_append, headB_len, recB_len, recsB_len, List.length_nil]
  omega
theorem newB_len (sn : List Int) : (newB sn).length = 30 + sn.length := head_rec_len
/-- The disk of a log with these records, so many bytes of it synced. -/
def sgF (rs : List (List Int)) (s : Nat) (fu na ns nc : Int) : Sg := ⟨[], oldB rs, 0, s, false, fu, na, ns, nc⟩
theorem fol_two (sn : List Int) : folOps (1 + 1) 1 sn = [.cut 0 0, .app 0 (newB sn), .syn 0, .cut 1 0] := rfl
section
variable {rs : List (List Int)} {sn : List Int} {s : Nat} {n na ns nc : Int}
/-- All writes are done. -/
theorem fol_done {x0 x1 : List Int} {s0 s1 : Nat} {f4 f3 f2 f1 f0 : Int} (hs : (newB sn).length ≤ 16777216) (g4 : goesOn false f4 = true) (g3 : goesOn false f3 = true) (g2 : goesOn false f2 = true) (g1 : goesOn false f1 = true) (l4 : leftOn f4 = f3) (l3 : leftOn f3 = f2) (l2 : leftOn f2 = f1) (l1 : leftOn f1 = f0) :
    ∃ na' ns' nc', runS ⟨x0, x1, s0, s1, false, f4, na, ns, nc⟩ (folOps (1 + 1) 1 sn) = (⟨newB sn, [], (newB sn).length, 0, false, f0, na', ns', nc'⟩, 0) := by
  rw [fol_two]
  have hg : ¬ 16777216 < (newB sn).length := by omega
  have n0 : ¬ ((x0.length : Int) < 0) := by omega
  have n1 : ¬ ((x1.length : Int) < 0) := by omega
  simp [runS, opC, opS, cutC, cutS, appC, appS, synC, synS, Sg.goes, Sg.wr, g4, g3, g2, g1, l4, l3, l2, l1, hg, n0, n1]
/-- The first write is refused. -/
theorem fol_0 {x0 x1 : List Int} {s0 s1 : Nat} : runS ⟨x0, x1, s0, s1, false, 0, na, ns, nc⟩ (folOps (1 + 1) 1 sn) = (⟨x0, x1, s0, s1, true, 0, na, ns, nc⟩, 8) := by
  rw [fol_two]
  have n0 : ¬ ((x0.length : Int) < 0) := by omega
  simp [runS, opC, opS, cutC, cutS, Sg.goes, goesOn, Sg.kill, n0]
theorem fol_1 {x1 : List Int} {s1 : Nat} (hs : (newB sn).length ≤ 16777216) : ∃ na' ns' nc', runS ⟨[], x1, 0, s1, false, 1, na, ns, nc⟩ (folOps (1 + 1) 1 sn) = (⟨[], x1, 0, s1, true, 0, na', ns', nc'⟩, 8) := by
  rw [fol_two]
  have hg : ¬ 16777216 < (newB sn).length := by omega
  simp [runS, opC, opS, cutC, cutS, appC, appS, Sg.goes, goesOn, Sg.wr, Sg.kill, leftOn, hg]
theorem fol_2 {x1 : List Int} {s1 : Nat} (hs : (newB sn).length ≤ 16777216) : ∃ na' ns' nc', runS ⟨[], x1, 0, s1, false, 2, na, ns, nc⟩ (folOps (1 + 1) 1 sn) = (⟨newB sn, x1, 0, s1, true, 0, na', ns', nc'⟩, 8) := by
  rw [fol_two]
  have hg : ¬ 16777216 < (newB sn).length := by omega
  simp [runS, opC, opS, cutC, cutS, appC, appS, synC, synS, Sg.goes, goesOn, Sg.wr, Sg.kill, leftOn, hg]
theorem fol_3 {x1 : List Int} {s1 : Nat} (hs : (newB sn).length ≤ 16777216) : ∃ na' ns' nc', runS ⟨[], x1, 0, s1, false, 3, na, ns, nc⟩ (folOps (1 + 1) 1 sn) = (⟨newB sn, x1, (newB sn).length, s1, true, 0, na', ns', nc'⟩, 8) := by
  rw [fol_two]
  have hg : ¬ 16777216 < (newB sn).length := by omega
  have n1 : ¬ ((x1.length : Int) < 0) := by omega
  simp [runS, opC, opS, cutC, cutS, appC, appS, synC, synS, Sg.goes, goesOn, Sg.wr, Sg.kill, leftOn, hg, n1]
/-- What the four writes leave, whatever the fuse. -/
theorem run_four (hs : (newB sn).length ≤ 16777216) {f : Int} (hf : -1 ≤ f) :
    ∃ x0 x1 s0 s1 dd fu na' ns' nc' c, runS ⟨[], oldB rs, 0, (oldB rs).length, false, f, na, ns, nc⟩ (folOps (1 + 1) 1 sn) = (⟨x0, x1, s0, s1, dd, fu, na', ns', nc'⟩, c) ∧ ((f = -1 ∨ 4 ≤ f) ∧ c = 0 ∧ dd = false ∧ x0 = newB sn ∧ x1 = [] ∧ s0 = (newB sn).length ∧ s1 = 0 ∨ (0 ≤ f ∧ f < 4) ∧ c = 8 ∧ dd = true ∧ x1 = oldB rs ∧ s1 = (oldB rs).length ∧ (f < 2 ∧ x0 = [] ∧ s0 = 0 ∨ f = 2 ∧ x0 = newB sn ∧ s0 = 0 ∨ f = 3 ∧ x0 = newB sn ∧ s0 = (newB sn).length)) := by
  by_cases h0 : f = -1
  · subst h0
    obtain ⟨a, b, c, e⟩ := fol_done (sn := sn) (x0 := []) (x1 := oldB rs) (s0 := 0) (s1 := (oldB rs).length) (f4 := -1) (f3 := -1) (f2 := -1) (f1 := -1) (f0 := -1) (na := na) (ns := ns) (nc := nc) hs rfl rfl rfl rfl rfl rfl rfl rfl
    exact ⟨_, _, _, _, _, _, a, b, c, _, e, Or.inl ⟨Or.inl rfl, rfl, rfl, rfl, rfl, rfl, rfl⟩⟩
  by_cases h4 : 4 ≤ f
  · have gg : ∀ z : Int, 0 < z → goesOn false z = true := fun z hz => by unfold goesOn; simp; omega
    have ll : ∀ z : Int, 0 < z → leftOn z = z - 1 := fun z hz => by unfold leftOn; rw [if_pos hz]
    obtain ⟨a, b, c, e⟩ := fol_done (sn := sn) (x0 := []) (x1 := oldB rs) (s0 := 0) (s1 := (oldB rs).length) (f4 := f) (f3 := f - 1) (f2 := f - 1 - 1) (f1 := f - 1 - 1 - 1) (f0 := f - 1 - 1 - 1 - 1) (na := na) (ns := ns) (nc := nc) hs (gg _ (by omega)) (gg _ (by omega)) (gg _ (by omega)) (gg _ (by omega)) (ll _ (by omega)) (ll _ (by omega)) (ll _ (by omega)) (ll _ (by omega))
    exact ⟨_, _, _, _, _, _, a, b, c, _, e, Or.inl ⟨Or.inr h4, rfl, rfl, rfl, rfl, rfl, rfl⟩⟩
  rcases (show f = 0 ∨ f = 1 ∨ f = 2 ∨ f = 3 by omega) with rfl | rfl | rfl | rfl
  · exact ⟨_, _, _, _, _, _, _, _, _, _, fol_0, Or.inr ⟨⟨by omega, by omega⟩, rfl, rfl, rfl, rfl, Or.inl ⟨by omega, rfl, rfl⟩⟩⟩
  · obtain ⟨a, b, c, e⟩ := fol_1 (sn := sn) (x1 := oldB rs) (s1 := (oldB rs).length) (na := na) (ns := ns) (nc := nc) hs
    exact ⟨_, _, _, _, _, _, a, b, c, _, e, Or.inr ⟨⟨by omega, by omega⟩, rfl, rfl, rfl, rfl, Or.inl ⟨by omega, rfl, rfl⟩⟩⟩
  · obtain ⟨a, b, c, e⟩ := fol_2 (sn := sn) (x1 := oldB rs) (s1 := (oldB rs).length) (na := na) (ns := ns) (nc := nc) hs
    exact ⟨_, _, _, _, _, _, a, b, c, _, e, Or.inr ⟨⟨by omega, by omega⟩, rfl, rfl, rfl, rfl, Or.inr (Or.inl ⟨rfl, rfl, rfl⟩)⟩⟩
  · obtain ⟨a, b, c, e⟩ := fol_3 (sn := sn) (x1 := oldB rs) (s1 := (oldB rs).length) (na := na) (ns := ns) (nc := nc) hs
    exact ⟨_, _, _, _, _, _, a, b, c, _, e, Or.inr ⟨⟨by omega, by omega⟩, rfl, rfl, rfl, rfl, Or.inr (Or.inr ⟨rfl, rfl, rfl⟩)⟩⟩
/-- A sync in front. -/
theorem run_front {f : Int} (hf : -1 ≤ f) : (f = 0 → runS (sgF rs s f na ns nc) (.syn 1 :: folOps (1 + 1) 1 sn) = (⟨[], oldB rs, 0, s, true, 0, na, ns, nc⟩, 8)) ∧ (f ≠ 0 → ∃ ns', runS (sgF rs s f na ns nc) (.syn 1 :: folOps (1 + 1) 1 sn) = runS ⟨[], oldB rs, 0, (oldB rs).length, false, leftOn f, na, ns', nc⟩ (folOps (1 + 1) 1 sn)) := by
  refine ⟨fun h => ?_, fun h => ⟨oneMore ns, ?_⟩⟩
  · subst h
    simp [runS, opC, opS, synC, synS, Sg.goes, goesOn, Sg.kill, sgF]
  · have hg : goesOn false f = true := by unfold goesOn; simp; omega
    have hc : opC (sgF rs s f na ns nc) (.syn 1) = 0 := by simp [opC, synC, Sg.goes, sgF, hg]
    rw [runS, if_pos hc]
    have : opS (sgF rs s f na ns nc) (.syn 1) = ⟨[], oldB rs, 0, (oldB rs).length, false, leftOn f, na, oneMore ns, nc⟩ := by simp [opS, synS, Sg.goes, sgF, hg, Sg.wr]
    rw [this]
end
end Go.Proofs.YthnpckmgnompiaaGreatDoor
