/-
  WalCommits: the disk of a log, whatever its generation: what writes, fuses and crashes leave of it; of no program.
-/
import Derived.Test.YthnpckmgnompiaaGreatDoorWFuseC
namespace Go.Proofs.YthnpckmgnompiaaGreatDoor
open Go.RowKit Go.BigFrame

/-- A disk by the log's area: its bytes, the other's, how many are synced. -/
def sgT (a : Nat) (A B : List Int) (sa sb : Nat) (dd : Bool) (fu na ns nc : Int) : Sg := if a = 0 then ⟨A, B, sa, sb, dd, fu, na, ns, nc⟩ else ⟨B, A, sb, sa, dd, fu, na, ns, nc⟩
section
variable {a : Nat} {A B : List Int} {sa sb : Nat} {dd : Bool} {fu na ns nc : Int}
theorem sgT_swap (ha : a = 0 ∨ a = 1) : sgT a A B sa sb dd fu na ns nc = sgT (1 - a) B A sb sa dd fu na ns nc := by
  rcases ha with rfl | rfl <;> rfl
theorem sgT_goes : (sgT a A B sa sb dd fu na ns nc).goes = goesOn dd fu := by
  unfold sgT
  split <;> rfl
theorem sgT_dead : (sgT a A B sa sb dd fu na ns nc).dead = dd := by
  unfold sgT
  split <;> rfl
theorem sgT_fuse (ha : a = 0 ∨ a = 1) {n : Int} : fusS (sgT a A B sa sb false fu na ns nc) n = sgT a A B sa sb false (max n (-1)) na ns nc := by
  rcases ha with rfl | rfl <;> rfl
theorem tC_app (ha : a = 0 ∨ a = 1) {m : Nat} (h : A.length + m ≤ 16777216) : appC (sgT a A B sa sb dd fu na ns nc) (a : Int) m = if goesOn dd fu then 0 else 8 := by
  rcases ha with rfl | rfl
  · simp only [appC, sgT_goes, Int.cast_ofNat_Int, if_true]
    rw [if_neg (by show ¬ 16777216 < A.length + m; omega)]
  · simp only [appC, sgT_goes]
    rw [if_neg (by decide), if_pos (by decide), if_neg (by show ¬ 16777216 < A.length + m; omega)]
theorem tS_app (ha : a = 0 ∨ a = 1) {bs : List Int} (h : A.length + bs.length ≤ 16777216) : appS (sgT a A B sa sb dd fu na ns nc) (a : Int) bs = if goesOn dd fu then sgT a (A ++ bs) B sa sb dd (leftOn fu) (oneMore na) ns nc else sgT a A B sa sb true fu na ns nc := by
  rcases ha with rfl | rfl
  · simp only [appS, sgT_goes, Int.cast_ofNat_Int, if_true]
    rw [if_neg (by show ¬ 16777216 < A.length + bs.length; omega)]
    rfl
  · simp only [appS, sgT_goes]
    rw [if_neg (by decide), if_pos (by decide), if_neg (by show ¬ 16777216 < A.length + bs.length; omega)]
    rfl
theorem tC_syn (ha : a = 0 ∨ a = 1) : synC (sgT a A B sa sb dd fu na ns nc) (a : Int) = if goesOn dd fu then 0 else 8 := by
  rcases ha with rfl | rfl <;> simp [synC, sgT_goes]
theorem tS_syn (ha : a = 0 ∨ a = 1) : synS (sgT a A B sa sb dd fu na ns nc) (a : Int) = if goesOn dd fu then sgT a A B A.length sb dd (leftOn fu) na (oneMore ns) nc else sgT a A B sa sb true fu na ns nc := by
  rcases ha with rfl | rfl
  · simp only [synS, sgT_goes, Int.cast_ofNat_Int, if_true]
    rfl
  · simp only [synS, sgT_goes]
    rw [if_neg (by decide), if_pos (by decide)]
    rfl
theorem tC_cut (ha : a = 0 ∨ a = 1) {n : Nat} (h : n ≤ A.length) : cutC (sgT a A B sa sb dd fu na ns nc) (a : Int) n = if goesOn dd fu then 0 else 8 := by
  rcases ha with rfl | rfl
  · simp only [cutC, sgT_goes, Int.cast_ofNat_Int, if_true]
    rw [if_neg (by show ¬ ((n : Int) < 0 ∨ (A.length : Int) < n); omega)]
  · simp only [cutC, sgT_goes]
    rw [if_neg (by decide), if_pos (by decide), if_neg (by show ¬ ((n : Int) < 0 ∨ (A.length : Int) < n); omega)]
theorem tS_cut (ha : a = 0 ∨ a = 1) {n : Nat} (h : n ≤ A.length) : cutS (sgT a A B sa sb dd fu na ns nc) (a : Int) n = if goesOn dd fu then sgT a (A.take n) B (min sa n) sb dd (leftOn fu) na ns (oneMore nc) else sgT a A B sa sb true fu na ns nc := by
  rcases ha with rfl | rfl
  · simp only [cutS, sgT_goes, Int.cast_ofNat_Int, if_true]
    rw [if_neg (by show ¬ ((n : Int) < 0 ∨ (A.length : Int) < n); omega)]
    rfl
  · simp only [cutS, sgT_goes]
    rw [if_neg (by decide), if_pos (by decide), if_neg (by show ¬ ((n : Int) < 0 ∨ (A.length : Int) < n); omega)]
    rfl
/-- A crash. -/
theorem tCrash (ha : a = 0 ∨ a = 1) (hA : sa ≤ A.length) (hB : sb ≤ B.length) (hA2 : A.length ≤ 16777216) (hB2 : B.length ≤ 16777216) (tk0 tz0 tk1 tz1 : Int) : ∃ k z k' z', sa + k + z ≤ A.length ∧ sb + k' + z' ≤ B.length ∧ crS (sgT a A B sa sb dd fu na ns nc) tk0 tz0 tk1 tz1 = sgT a (torn A sa k z) (torn B sb k' z') (torn A sa k z).length (torn B sb k' z').length false (-1) na ns nc ∧ (tk0 ≤ 0 → tk1 ≤ 0 → k = 0 ∧ k' = 0) ∧ (16777216 ≤ tk0 → 16777216 ≤ tk1 → sa + k = A.length ∧ sb + k' = B.length) := by
  rcases ha with rfl | rfl
  · refine ⟨(betw tk0 ((A.length - sa : Nat) : Int)).toNat, (betw tz0 ((A.length - sa - (betw tk0 ((A.length - sa : Nat) : Int)).toNat : Nat) : Int)).toNat, (betw tk1 ((B.length - sb : Nat) : Int)).toNat, (betw tz1 ((B.length - sb - (betw tk1 ((B.length - sb : Nat) : Int)).toNat : Nat) : Int)).toNat, ?_, ?_, rfl, ?_, ?_⟩ <;> unfold betw <;> omega
  · refine ⟨(betw tk1 ((A.length - sa : Nat) : Int)).toNat, (betw tz1 ((A.length - sa - (betw tk1 ((A.length - sa : Nat) : Int)).toNat : Nat) : Int)).toNat, (betw tk0 ((B.length - sb : Nat) : Int)).toNat, (betw tz0 ((B.length - sb - (betw tk0 ((B.length - sb : Nat) : Int)).toNat : Nat) : Int)).toNat, ?_, ?_, rfl, ?_, ?_⟩ <;> unfold betw <;> omega
end
/-- A generation's bytes. -/
def genB (g : Nat) (sn : List Int) (rs : List (List Int)) : List Int := headB g ++ (recB sn ++ recsB rs)
theorem genB_len (g : Nat) (sn : List Int) (rs : List (List Int)) : (genB g sn rs).length = 30 + sn.length + sizes rs := by
  unfold genB
  rw [List.length_append, List.length_append, headB_len, recB_len, recsB_len]
  omega
theorem genB_nil (g : Nat) (sn : List Int) : genB g sn [] = headB g ++ recB sn := by simp [genB, recsB]
theorem genB_snoc (g : Nat) (sn : List Int) (rs : List (List Int)) (d : List Int) : genB g sn rs ++ recB d = genB g sn (rs ++ [d]) := by
  unfold genB
  rw [recsB_snoc]
  simp [List.append_assoc]
/-- What a crash leaves of them. -/
def cutG (g : Nat) (sn : List Int) (rs : List (List Int)) (k z : Nat) : List Int := headB g ++ (recB sn ++ ((recsB rs).take k ++ List.replicate z 0))
theorem cutG_len {g : Nat} {sn : List Int} {rs : List (List Int)} {k z : Nat} (h : k ≤ sizes rs) : (cutG g sn rs k z).length = 30 + sn.length + k + z := by
  unfold cutG
  rw [List.length_append, List.length_append, List.length_append, headB_len, recB_len, List.length_take, recsB_len, List.length_replicate]
  omega
theorem torn_gen {g : Nat} {sn : List Int} {rs : List (List Int)} {s k z : Nat} : torn (genB g sn rs) (30 + sn.length + s) k z = cutG g sn rs (s + k) z := by
  unfold torn genB cutG
  have e : 30 + sn.length + s + k = (headB (g : Int)).length + ((recB sn).length + (s + k)) := by rw [headB_len, recB_len]; omega
  rw [e, List.take_length_add_append, List.take_length_add_append, List.append_assoc, List.append_assoc]
theorem cutG_all (g : Nat) (sn : List Int) (rs : List (List Int)) : cutG g sn rs (sizes rs) 0 = genB g sn rs := by
  unfold cutG genB
  rw [← recsB_len, List.take_length]
  simp
theorem recsB_take (rs : List (List Int)) (m : Nat) : (recsB rs).take (sizes (rs.take m)) = recsB (rs.take m) := by
  have e : recsB rs = recsB (rs.take m) ++ recsB (rs.drop m) := by rw [← recsB_app, List.take_append_drop]
  rw [e, ← recsB_len (rs.take m), List.take_left]
theorem sizes_take_le (rs : List (List Int)) {m p : Nat} (h : m ≤ p) : sizes (rs.take m) ≤ sizes (rs.take p) := by
  have e : rs.take p = rs.take m ++ (rs.take p).drop m := by
    have := (List.take_append_drop m (rs.take p)).symm
    rwa [List.take_take, Nat.min_eq_left h] at this
  rw [e, sizes_app]
  omega
theorem sizes_at {rs : List (List Int)} {m : Nat} {r : List Int} (h : rs[m]? = some r) : sizes (rs.take (m + 1)) = sizes (rs.take m) + (r.length + 13) := by
  rw [List.take_add_one, h]
  simp [sizes]
/-- Which records a crash leaves. -/
theorem cut_found {g : Nat} {sn : List Int} {rs : List (List Int)} {k z p : Nat} (h0 : 1 ≤ g) (h1 : g ≤ 4611686018427387904) (h2 : sn.length ≤ 2097152) (hrs : ∀ r ∈ rs, 1 ≤ r.length ∧ r.length ≤ 20000) (hp : p ≤ rs.length) (hk : sizes (rs.take p) ≤ k) (hz : k + z ≤ sizes rs) :
    ∃ m, p ≤ m ∧ m ≤ rs.length ∧ psS (cutG g sn rs k z) ((g : Int) % 2) = some (g, sn, rs.take m) ∧ sizes (rs.take m) ≤ k ∧ (k = sizes (rs.take p) → m = p) ∧ (k = sizes rs → m = rs.length) := by
  obtain ⟨n, left, full, hc⟩ := cut_some rs (k := (k : Int)) (by omega)
  have he := hc.eq
  have hl0 := hc.l0
  have hnl := hc.nl
  have key : ∀ R, (recsB rs).take k ++ List.replicate z (0 : Int) = recsB (rs.take n) ++ R → rcS R 1 20000 = none → psS (cutG g sn rs k z) ((g : Int) % 2) = some (g, sn, rs.take n) := fun R hR hn => by
    unfold cutG
    rw [hR]
    exact ps_recs h0 h1 h2 rfl (fun r hr => hrs r (List.mem_of_mem_take hr)) hn
  have hpn : p ≤ n := by
    cases full with
    | true => rw [hc.ft rfl]; exact hp
    | false =>
      obtain ⟨r, hr, hl⟩ := hc.ff rfl
      rcases Nat.lt_or_ge n p with g | g
      · have h1 := sizes_at hr
        have h2 := sizes_take_le rs (show n + 1 ≤ p by omega)
        omega
      · exact g
  have heq : k = sizes (rs.take p) → n = p := fun e => by
    rcases Nat.lt_or_ge p n with g | g
    · obtain ⟨r, hr⟩ : ∃ r, rs[p]? = some r := ⟨_, List.getElem?_eq_getElem (by omega)⟩
      have h1 := sizes_at hr
      have h2 := sizes_take_le rs (show p + 1 ≤ n by omega)
      omega
    · omega
  cases full with
  | true =>
    have hn := hc.ft rfl
    rw [hn, List.take_length] at he
    have hks : k = sizes rs := by omega
    have hz0 : z = 0 := by omega
    subst hz0
    refine ⟨n, hpn, hnl, key [] ?_ rc_nil, by rw [hn, List.take_length]; omega, heq, fun _ => hn⟩
    rw [hn, List.take_length, hks, List.take_of_length_le (by rw [recsB_len]; exact Nat.le_refl _)]
    rfl
  | false =>
    obtain ⟨r, hr, hl⟩ := hc.ff rfl
    obtain ⟨hlt, hre⟩ := List.getElem?_eq_some_iff.1 hr
    have hsplit : rs = rs.take n ++ (r :: rs.drop (n + 1)) := by
      rw [← hre, ← List.drop_eq_getElem_cons hlt, List.take_append_drop]
    have hsz : sizes rs = sizes (rs.take n) + ((r.length + 13) + sizes (rs.drop (n + 1))) := by
      have e1 : sizes (r :: rs.drop (n + 1)) = (r.length + 13) + sizes (rs.drop (n + 1)) := by simp [sizes]
      rw [← e1, ← sizes_app, ← hsplit]
    have hkl : k = sizes (rs.take n) + left.toNat := by omega
    refine ⟨n, hpn, hnl, key ((recB r).take left.toNat ++ List.replicate z 0) ?_ (rc_torn (hrs r (List.mem_of_getElem? hr)).1 (hrs r (List.mem_of_getElem? hr)).2 (by rw [recB_len]; omega)), by omega, heq, fun e => by omega⟩
    have e2 : recsB rs = recsB (rs.take n) ++ (recB r ++ recsB (rs.drop (n + 1))) := by
      have e3 : recsB (r :: rs.drop (n + 1)) = recB r ++ recsB (rs.drop (n + 1)) := by simp [recsB]
      rw [← e3, ← recsB_app, ← hsplit]
    have e4 : (recsB rs).take k = recsB (rs.take n) ++ (recB r).take left.toNat := by
      rw [e2, hkl, ← recsB_len (rs.take n), List.take_length_add_append, List.take_append_of_le_length (by rw [recB_len]; omega)]
    rw [e4, List.append_assoc]
/-- What Open leaves of a log whose end is torn. -/
theorem cutG_take {g : Nat} {sn : List Int} {rs : List (List Int)} {k z m : Nat} (h : sizes (rs.take m) ≤ k) (hk : k ≤ sizes rs) : (cutG g sn rs k z).take (30 + sn.length + sizes (rs.take m)) = genB g sn (rs.take m) := by
  unfold cutG genB
  have e : 30 + sn.length + sizes (rs.take m) = (headB (g : Int)).length + ((recB sn).length + sizes (rs.take m)) := by rw [headB_len, recB_len]; omega
  rw [e, List.take_length_add_append, List.take_length_add_append, List.take_append_of_le_length (by rw [List.length_take, recsB_len]; omega), List.take_take, Nat.min_eq_left h, recsB_take]
theorem rng_gen {g : Nat} {sn : List Int} {rs : List (List Int)} (h1 : g ≤ 4611686018427387904) (h : Rng sn) (hr : ∀ r ∈ rs, Rng r) : Rng (genB g sn rs) := by
  refine rng_app (hdR g (by omega) (by omega)) (rng_app (rng_rec h) ?_)
  intro q hq
  unfold recsB at hq
  obtain ⟨l, hl, hql⟩ := List.mem_flatten.1 hq
  obtain ⟨r, hr', rfl⟩ := List.mem_map.1 hl
  exact rng_rec (hr r hr') q hql
theorem rng_torn3 {xs : List Int} {s k z : Nat} (h : Rng xs) : Rng (torn xs s k z) := rng_app (fun q hq => h q (List.mem_of_mem_take hq)) (fun q hq => by have := List.eq_of_mem_replicate hq; omega)
section
variable {a : Nat} {A N : List Int} {sa : Nat} {fu na ns nc : Int}
/-- The four writes of a Compact, whatever the fuse. -/
theorem tRun_four (ha : a = 0 ∨ a = 1) (hN : N.length ≤ 16777216) :
    ∃ fu' na' ns' nc', runS (sgT a A [] sa 0 false fu na ns nc) [.cut (1 - (a : Int)) 0, .app (1 - (a : Int)) N, .syn (1 - (a : Int)), .cut (a : Int) 0] = (sgT (1 - a) N [] N.length 0 false fu' na' ns' nc', 0) ∨ ∃ B sb, runS (sgT a A [] sa 0 false fu na ns nc) [.cut (1 - (a : Int)) 0, .app (1 - (a : Int)) N, .syn (1 - (a : Int)), .cut (a : Int) 0] = (sgT a A B sa sb true fu' na' ns' nc', 8) ∧ (B = [] ∧ sb = 0 ∨ B = N ∧ (sb = 0 ∨ sb = N.length)) := by
  have hb : 1 - a = 0 ∨ 1 - a = 1 := by omega
  have e1 : (1 - (a : Int)) = ((1 - a : Nat) : Int) := by omega
  have e2 : 1 - (1 - a) = a := by omega
  rw [e1]
  have z0 : (0 : Int) = ((0 : Nat) : Int) := rfl
  by_cases g1 : goesOn false fu = true
  · have s1 : opC (sgT a A [] sa 0 false fu na ns nc) (.cut ((1 - a : Nat) : Int) 0) = 0 ∧ opS (sgT a A [] sa 0 false fu na ns nc) (.cut ((1 - a : Nat) : Int) 0) = sgT a A [] sa 0 false (leftOn fu) na ns (oneMore nc) := by
      constructor
      · show cutC _ _ _ = _
        rw [sgT_swap ha]; exact (tC_cut hb (n := 0) (by simp)).trans (if_pos g1)
      · show cutS _ _ _ = _
        rw [sgT_swap ha, z0, tS_cut hb (by simp), if_pos g1, sgT_swap (a := a) ha]
        rfl
    by_cases g2 : goesOn false (leftOn fu) = true
    · have s2 : opC (sgT a A [] sa 0 false (leftOn fu) na ns (oneMore nc)) (.app ((1 - a : Nat) : Int) N) = 0 ∧ opS (sgT a A [] sa 0 false (leftOn fu) na ns (oneMore nc)) (.app ((1 - a : Nat) : Int) N) = sgT a A N sa 0 false (leftOn (leftOn fu)) (oneMore na) ns (oneMore nc) := by
        constructor
        · show appC _ _ _ = _
          rw [sgT_swap ha, tC_app hb (by simpa using hN), if_pos g2]
        · show appS _ _ _ = _
          rw [sgT_swap ha, tS_app hb (by simpa using hN), if_pos g2, sgT_swap (a := a) ha]
          rfl
      by_cases g3 : goesOn false (leftOn (leftOn fu)) = true
      · have s3 : opC (sgT a A N sa 0 false (leftOn (leftOn fu)) (oneMore na) ns (oneMore nc)) (.syn ((1 - a : Nat) : Int)) = 0 ∧ opS (sgT a A N sa 0 false (leftOn (leftOn fu)) (oneMore na) ns (oneMore nc)) (.syn ((1 - a : Nat) : Int)) = sgT a A N sa N.length false (leftOn (leftOn (leftOn fu))) (oneMore na) (oneMore ns) (oneMore nc) := by
          constructor
          · show synC _ _ = _
            rw [sgT_swap ha, tC_syn hb, if_pos g3]
          · show synS _ _ = _
            rw [sgT_swap ha, tS_syn hb, if_pos g3, sgT_swap (a := a) ha]
        by_cases g4 : goesOn false (leftOn (leftOn (leftOn fu))) = true
        · have s4 : opC (sgT a A N sa N.length false (leftOn (leftOn (leftOn fu))) (oneMore na) (oneMore ns) (oneMore nc)) (.cut (a : Int) 0) = 0 ∧ opS (sgT a A N sa N.length false (leftOn (leftOn (leftOn fu))) (oneMore na) (oneMore ns) (oneMore nc)) (.cut (a : Int) 0) = sgT (1 - a) N [] N.length 0 false (leftOn (leftOn (leftOn (leftOn fu)))) (oneMore na) (oneMore ns) (oneMore (oneMore nc)) := by
            constructor
            · show cutC _ _ _ = _
              exact (tC_cut ha (n := 0) (Nat.zero_le _)).trans (if_pos g4)
            · show cutS _ _ _ = _
              rw [z0, tS_cut ha (Nat.zero_le _), if_pos g4, sgT_swap ha, Nat.min_zero]
              rfl
          exact ⟨_, _, _, _, Or.inl (by rw [runS, if_pos s1.1, s1.2, runS, if_pos s2.1, s2.2, runS, if_pos s3.1, s3.2, runS, if_pos s4.1, s4.2, runS])⟩
        · have s4 : opC (sgT a A N sa N.length false (leftOn (leftOn (leftOn fu))) (oneMore na) (oneMore ns) (oneMore nc)) (.cut (a : Int) 0) = 8 ∧ opS (sgT a A N sa N.length false (leftOn (leftOn (leftOn fu))) (oneMore na) (oneMore ns) (oneMore nc)) (.cut (a : Int) 0) = sgT a A N sa N.length true (leftOn (leftOn (leftOn fu))) (oneMore na) (oneMore ns) (oneMore nc) := by
            constructor
            · show cutC _ _ _ = _
              exact (tC_cut ha (n := 0) (Nat.zero_le _)).trans (if_neg g4)
            · show cutS _ _ _ = _
              rw [z0, tS_cut ha (Nat.zero_le _), if_neg g4]
          exact ⟨_, _, _, _, Or.inr ⟨N, N.length, by rw [runS, if_pos s1.1, s1.2, runS, if_pos s2.1, s2.2, runS, if_pos s3.1, s3.2, runS, if_neg (by rw [s4.1]; decide), s4.2, s4.1], Or.inr ⟨rfl, Or.inr rfl⟩⟩⟩
      · have s3 : opC (sgT a A N sa 0 false (leftOn (leftOn fu)) (oneMore na) ns (oneMore nc)) (.syn ((1 - a : Nat) : Int)) = 8 ∧ opS (sgT a A N sa 0 false (leftOn (leftOn fu)) (oneMore na) ns (oneMore nc)) (.syn ((1 - a : Nat) : Int)) = sgT a A N sa 0 true (leftOn (leftOn fu)) (oneMore na) ns (oneMore nc) := by
          constructor
          · show synC _ _ = _
            rw [sgT_swap ha, tC_syn hb, if_neg g3]
          · show synS _ _ = _
            rw [sgT_swap ha, tS_syn hb, if_neg g3, sgT_swap (a := a) ha]
        exact ⟨_, _, _, _, Or.inr ⟨N, 0, by rw [runS, if_pos s1.1, s1.2, runS, if_pos s2.1, s2.2, runS, if_neg (by rw [s3.1]; decide), s3.2, s3.1], Or.inr ⟨rfl, Or.inl rfl⟩⟩⟩
    · have s2 : opC (sgT a A [] sa 0 false (leftOn fu) na ns (oneMore nc)) (.app ((1 - a : Nat) : Int) N) = 8 ∧ opS (sgT a A [] sa 0 false (leftOn fu) na ns (oneMore nc)) (.app ((1 - a : Nat) : Int) N) = sgT a A [] sa 0 true (leftOn fu) na ns (oneMore nc) := by
        constructor
        · show appC _ _ _ = _
          rw [sgT_swap ha, tC_app hb (by simpa using hN), if_neg g2]
        · show appS _ _ _ = _
          rw [sgT_swap ha, tS_app hb (by simpa using hN), if_neg g2, sgT_swap (a := a) ha]
      exact ⟨_, _, _, _, Or.inr ⟨[], 0, by rw [runS, if_pos s1.1, s1.2, runS, if_neg (by rw [s2.1]; decide), s2.2, s2.1], Or.inl ⟨rfl, rfl⟩⟩⟩
  · have s1 : opC (sgT a A [] sa 0 false fu na ns nc) (.cut ((1 - a : Nat) : Int) 0) = 8 ∧ opS (sgT a A [] sa 0 false fu na ns nc) (.cut ((1 - a : Nat) : Int) 0) = sgT a A [] sa 0 true fu na ns nc := by
      constructor
      · show cutC _ _ _ = _
        rw [sgT_swap ha]; exact (tC_cut hb (n := 0) (by simp)).trans (if_neg g1)
      · show cutS _ _ _ = _
        rw [sgT_swap ha, z0, tS_cut hb (by simp), if_neg g1, sgT_swap (a := a) ha]
    exact ⟨_, _, _, _, Or.inr ⟨[], 0, by rw [runS, if_neg (by rw [s1.1]; decide), s1.2, s1.1], Or.inl ⟨rfl, rfl⟩⟩⟩
end
end Go.Proofs.YthnpckmgnompiaaGreatDoor
