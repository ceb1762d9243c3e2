import Derived.Test.YtfkcnnjkflomkaaDoorWFuseC
import Derived.BigQuiet
import Derived.Test.YtfkcnnjkflomkaaDoorWComp0
/-
  WalCommits: the disk of a log, whatever its generation: what writes, fuses and crashes leave of it; of no program.
-/
namespace Go.Proofs.YtfkcnnjkflomkaaDoor
open Go.RowKit Go.BigFrame

/-- A disk by the log's area: its bytes, the other's, how many are synced. -/
def sgT (a : Nat) (A B : List Int) (sa sb : Nat) (dd : Bool) (fu na ns nc : Int) : Sg := if a = 0 then ⟨A, B, sa, sb, dd, fu, na, ns, nc⟩ else ⟨B, A, sb, sa, dd, fu, na, ns, nc⟩
section
variable {a : Nat} {A B : List Int} {sa sb : Nat} {dd : Bool} {fu na ns nc : Int}
theorem sgT_swap (ha : a = 0 ∨ a = 1) : sgT a A B sa sb dd fu na ns nc = sgT (1 - a) B A sb sa dd fu na ns nc := by
  rcases ha with rfl | rfl <;> rfl
theorem sgT_goes : (sgT a A B sa sb dd fu na ns nc).goes = goesOn dd fu := by
  unfold sgT
  split <;> rfl
theorem sgT_dead : (sgT a A B sa sb dd fu na ns nc).dead = dd := by
  unfold sgT
  split <;> rfl
theorem sgT_fuse (ha : a = 0 ∨ a = 1) {n : Int} : fusS (sgT a A B sa sb false fu na ns nc) n = sgT a A B sa sb false (max n (-1)) na ns nc := by
  rcases ha with rfl | rfl <;> rfl
theorem tC_app (ha : a = 0 ∨ a = 1) {m : Nat} (h : A.length + m ≤ 16777216) : appC (sgT a A B sa sb dd fu na ns nc) (a : Int) m = if goesOn dd fu then 0 else 8 := by
  rcases ha with rfl | rfl
  · simp only [appC, sgT_goes, Int.cast_ofNat_Int, if_true]
    rw [if_neg (by show ¬ 16777216 < A.length + m; omega)]
  · simp only [appC, sgT_goes]
    rw [if_neg (by decide), if_pos (by decide), if_neg (by show ¬ 16777216 < A.length + m; omega)]
theorem tS_app (ha : a = 0 ∨ a = 1) {bs : List Int} (h : A.length + bs.length ≤ 16777216) : appS (sgT a A B sa sb dd fu na ns nc) (a : Int) bs = if goesOn dd fu then sgT a (A ++ bs) B sa sb dd (leftOn fu) (oneMore na) ns nc else sgT a A B sa sb true fu na ns nc := by
  rcases ha with rfl | rfl
  · simp only [appS, sgT_goes, Int.cast_ofNat_Int, if_true]
    rw [if_neg (by show ¬ 16777216 < A.length + bs.length; omega)]
    rfl
  · simp only [appS, sgT_goes]
    rw [if_neg (by decide), if_pos (by decide), if_neg (by show ¬ 16777216 < A.length + bs.length; omega)]
    rfl
theorem tC_syn (ha : a = 0 ∨ a = 1) : synC (sgT a A B sa sb dd fu na ns nc) (a : Int) = if goesOn dd fu then 0 else 8 := by
  rcases ha with rfl | rfl <;> simp [synC, sgT_goes]
theorem tS_syn (ha : a = 0 ∨ a = 1) : synS (sgT a A B sa sb dd fu na ns nc) (a : Int) = if goesOn dd fu then sgT a A B A.length sb dd (leftOn fu) na (oneMore ns) nc else sgT a A B sa sb true fu na ns nc := by
  rcases ha with rfl | rfl
  · simp only [synS, sgT_goes, Int.cast_ofNat_Int, if_true]
    rfl
  · simp only [synS, sgT_goes]
    rw [if_neg (by decide), if_pos (by decide)]
    rfl
theorem tC_cut (ha : a = 0 ∨ a = 1) {n : Nat} (h : n ≤ A.length) : cutC (sgT a A B sa sb dd fu na ns nc) (a : Int) n = if goesOn dd fu then 0 else 8 := by
  rcases ha with rfl | rfl
  · simp only [cutC, sgT_goes, Int.cast_ofNat_Int, if_true]
    rw [if_neg (by show ¬ ((n : Int) < 0 ∨ (A.length : Int) < n); omega)]
  · simp only [cutC, sgT_goes]
    rw [if_neg (by decide), if_pos (by decide), if_neg (by show ¬ ((n : Int) < 0 ∨ (A.length : Int) < n); omega)]
theorem tS_cut (ha : a = 0 ∨ a = 1) {n : Nat} (h : n ≤ A.length) : cutS (sgT a A B sa sb dd fu na ns nc) (a : Int) n = if goesOn dd fu then sgT a (A.take n) B (min sa n) sb dd (leftOn fu) na ns (oneMore nc) else sgT a A B sa sb true fu na ns nc := by
  rcases ha with rfl | rfl
  · simp only [cutS, sgT_goes, Int.cast_ofNat_Int, if_true]
    rw [if_neg (by show ¬ ((n : Int) < 0 ∨ (A.length : Int) < n); omega)]
    rfl
  · simp only [cutS, sgT_goes]
    rw [if_neg (by decide), if_pos (by decide), if_neg (by show ¬ ((n : Int) < 0 ∨ (A.length : Int) < n); omega)]
    rfl
/-- A crash. -/
theorem tCrash (ha : a = 0 ∨ a = 1) (hA : sa ≤ A.length) (hB : sb ≤ B.length) (hA2 : A.length ≤ 16777216) (hB2 : B.length ≤ 16777216) (tk0 tz0 tk1 tz1 : Int) : ∃ k z k' z', sa + k + z ≤ A.length ∧ sb + k' + z' ≤ B.length ∧ crS (sgT a A B sa sb dd fu na ns nc) tk0 tz0 tk1 tz1 = sgT a (torn A sa k z) (torn B sb k' z') (torn A sa k z).length (torn B sb k' z').length false (-1) na ns nc ∧ (tk0 ≤ 0 → tk1 ≤ 0 → k = 0 ∧ k' = 0) ∧ (16777216 ≤ tk0 → 16777216 ≤ tk1 → sa + k = A.length ∧ sb + k' = B.length) := by
  rcases ha with rfl | rfl
  · refine ⟨(betw tk0 ((A.length - sa : Nat) : Int)).toNat, (betw tz0 ((A.length - sa - (betw tk0 ((A.length - sa : Nat) : Int)).toNat : Nat) : Int)).toNat, (betw tk1 ((B.length - sb : Nat) : Int)).toNat, (betw tz1 ((B.length - sb - (betw tk1 ((B.length - sb : Nat) : Int)).toNat : Nat) : Int)).toNat, ?_, ?_, rfl, ?_, ?_⟩ <;> unfold betw <;> omega
  · refine ⟨(betw tk1 ((A.length - sa : Nat) : Int)).toNat, (betw tz1 ((A.length - sa - (betw tk1 ((A.length - sa : Nat) : Int)).toNat : Nat) : Int)).toNat, (betw tk0 ((B.length - sb : Nat) : Int)).toNat, (betw tz0 ((B.length - sb - (betw tk0 ((B.length - sb : Nat) : Int)).toNat : Nat) : Int)).toNat, ?_, ?_, rfl, ?_, ?_⟩ <;> unfold betw <;> omega
end
/-- A generation's bytes. -/
def genB (g : Nat) (sn : List Int) (rs : List (List Int)) : List Int := headB g ++ (recB sn ++ recsB rs)
theorem genB_len (g : Nat) (sn : List Int) (rs : List (List Int)) : (genB g sn rs).length = 30 + sn.length + sizes rs := by
  unfold genB
  rw [List.length_append, List.length_append, headB_len, recB_len, recsB_len]
  omega
theorem genB_nil (g : Nat) (sn : List Int) : genB g sn [] = headB g ++ recB sn := by simp [genB, recsB]
theorem genB_snoc (g : Nat) (sn : List Int) (rs : List (List Int)) (d : List Int) : genB g sn rs ++ recB d = genB g sn (rs ++ [d]) := by
  unfold genB
  rw [recsB_snoc]
  simp [List.append_assoc]
/-- What a crash leaves of them. -/
def cutG (g : Nat) (sn : List Int) (rs : List (List Int)) (k z : Nat) : List Int := headB g ++ (recB sn ++ ((recsB rs).take k ++ List.replicate z 0))
theorem cutG_len {g : Nat} {sn : List Int} {rs : List (List Int)} {k z : Nat} (h : k ≤ sizes rs) : (cutG g sn rs k z).length = 30 + sn.length + k + z := by
  unfold cutG
  rw [List.length_append, List.length_append, List.length_append, headB_len, recB_len, List.length_take, recsB_len, List.length_replicate]
  omega
theorem torn_gen {g : Nat} {sn : List Int} {rs : List (List Int)} {s k z : Nat} : torn (genB g sn rs) (30 + sn.length + s) k z = cutG g sn rs (s + k) z := by
  unfold torn genB cutG
  have e : 30 + sn.length + s + k = (headB (g : Int)).length + ((recB sn).length + (s + k)) := by rw [headB_len, recB_len]; omega
  rw [e, List.take_length_add_append, List.take_length_add_append, List.append_assoc, List.append_assoc]
theorem cutG_all (g : Nat) (sn : List Int) (rs : List (List Int)) : cutG g sn rs (sizes rs) 0 = genB g sn rs := by
  unfold cutG genB
  rw [← recsB_len, List.take_length]
  simp
theorem recsB_take (rs : List (List Int)) (m : Nat) : (recsB rs).take (sizes (rs.take m)) = recsB (rs.take m) := by
  have e : recsB rs = recsB (rs.take m) ++ recsB (rs.drop m) := by rw [← recsB_app, List.take_append_drop]
  rw [e, ← recsB_len (rs.take m), List.take_left]
theorem sizes_take_le (rs : List (List Int)) {m p : Nat} (h : m ≤ p) : sizes (rs.take m) ≤ sizes (rs.take p) := by
  have e : rs.take p = rs.take m ++ (rs.take p).drop m := by
    have := (List.take_append_drop m (rs.take p)).symm
    rwa [List.take_take, Nat.min_eq_left h] at this
  rw [e, sizes_app]
  omega
theorem sizes_at {rs : List (List Int)} {m : Nat} {r : List Int} (h : rs[m]? = some r) : sizes (rs.take (m + 1)) = sizes (rs.take m) + (r.length + 13) := by
  rw [List.take_add_one, h]
  simp [sizes]
/-- Which records a crash leaves. -/
theorem cut_found {g : Nat} {sn : List Int} {rs : List (List Int)} {k z p : Nat} (h0 : 1 ≤ g) (h1 : g ≤ 4611686018427387904) (h2 : sn.length ≤ 2097152) (hrs : ∀ r ∈ rs, 1 ≤ r.length ∧ r.length ≤ 20000) (hp : p ≤ rs.length) (hk : sizes (rs.take p) ≤ k) (hz : k + z ≤ sizes rs) :
    ∃ m, p ≤ m ∧ m ≤ rs.length ∧ psS (cutG g sn rs k z) ((g : Int) % 2) = some (g, sn, rs.take m) ∧ sizes (rs.take m) ≤ k ∧ (k = sizes (rs.take p) → m = p) ∧ (k = sizes rs → m = rs.length) := by
  obtain ⟨n, left, full, hc⟩ := cut_some rs (k := (k : Int)) (by omega)
  have he := hc.eq
  have hl0 := hc.l0
  have hnl := hc.nl
  have key : ∀ R, (recsB rs).take k ++ List.replicate z (0 : Int) = recsB (rs.take n) ++ R → rcS R 1 20000 = none → psS (cutG g sn rs k z) ((g : Int) % 2) = some (g, sn, rs.take n) := fun R hR hn => by
    unfold cutG
    rw [hR]
    exact ps_recs h0 h1 h2 rfl (fun r hr => hrs r (List.mem_of_mem_take hr)) hn
  have hpn : p ≤ n := by
    cases full with
    | true => rw [hc.ft rfl]; exact hp
    | false =>
      obtain ⟨r, hr, hl⟩ := hc.ff rfl
      rcases Nat.lt_or_ge n p with g | g
      · have h1 := sizes_at hr
        have h2 := sizes_take_le rs (show n + 1 ≤ p by omega)
        omega
      · exact g
  have heq : k = sizes (rs.take p) → n = p := fun e => by
    rcases Nat.lt_or_ge p n with g | g
    · obtain ⟨r, hr⟩ : ∃ r, rs[p]? = some r := ⟨_, List.getElem?_eq_getElem (by omega)⟩
      have h1 := sizes_at hr
      have h2 := sizes_take_le rs (show p + 1 ≤ n by omega)
      omega
    · omega
  cases full with
  | true =>
    have hn := hc.ft rfl
    rw [hn, List.take_length] at he
    have hks : k = sizes rs := by omega
    have hz0 : z = 0 := by omega
    subst hz0
    refine ⟨n, hpn, hnl, key [] ?_ rc_nil, by rw [hn, List.take_length]; omega, heq, fun _ => hn⟩
    rw [hn, List.take_length, hks, List.take_of_length_le (by rw [recsB_len]; exact Nat.le_refl _)]
    rfl
  | false =>
    obtain ⟨r, hr, hl⟩ := hc.ff rfl
    obtain ⟨hlt, hre⟩ := List.getElem?_eq_some_iff.1 hr
    have hsplit : rs = rs.take n ++ (r :: rs.drop (n + 1)) := by
      rw [← hre, ← List.drop_eq_getElem_cons hlt, List.take_append_drop]
    have hsz : sizes rs = sizes (rs.take n) + ((r.length + 13) + sizes (rs.drop (n + 1))) := by
      have e1 : sizes (r :: rs.drop (n + 1)) = (r.length + 13) + sizes (rs.drop (n + 1)) := by simp [sizes]
      rw [← e1, ← sizes_app, ← hsplit]
    have hkl : k = sizes (rs.take n) + left.toNat := by omega
    refine ⟨n, hpn, hnl, key ((recB r).take left.toNat ++ List.replicate z 0) ?_ (rc_torn (hrs r (List.mem_of_getElem? hr)).1 (hrs r (List.mem_of_getElem? hr)).2 (by rw [recB_len]; omega)), by omega, heq, fun e => by omega⟩
    have e2 : recsB rs = recsB (rs.take n) ++ (recB r ++ recsB (rs.drop (n + 1))) := by
      have e3 : recsB (r :: rs.drop (n + 1)) = recB r ++ recsB (rs.drop (n + 1)) := by simp [recsB]
      rw [← e3, ← recsB_app, ← hsplit]
    have e4 : (recsB rs).take k = recsB (rs.take n) ++ (recB r).take left.toNat := by
      rw [e2, hkl, ← recsB_len (rs.take n), List.take_length_add_append, List.take_append_of_le_length (by rw [recB_len]; omega)]
    rw [e4, List.append_assoc]
/-- What Open leaves of a log whose end is torn. -/
theorem cutG_take {g : Nat} {sn : List Int} {rs : List (List Int)} {k z m : Nat} (h : sizes (rs.take m) ≤ k) (hk : k ≤ sizes rs) : (cutG g sn rs k z).take (30 + sn.length + sizes (rs.take m)) = genB g sn (rs.take m) := by
  unfold cutG genB
  have e : 30 + sn.length + sizes (rs.take m) = (headB (g : Int)).length + ((recB sn).length + sizes (rs.take m)) := by rw [headB_len, recB_len]; omega
  rw [e, List.take_length_add_append, List.take_length_add_append, List.take_append_of_le_length (by rw [List.length_take, recsB_len]; omega), List.take_take, Nat.min_eq_left h, recsB_take]
theorem rng_gen {g : Nat} {sn : List Int} {rs : List (List Int)} (h1 : g ≤ 4611686018427387904) (h : Rng sn) (hr : ∀ r ∈ rs, Rng r) : Rng (genB g sn rs) := by
  refine rng_app (hdR g (by omega) (by omega)) (rng_app (rng_rec h) ?_)
  intro q hq
  unfold recsB at hq
  obtain ⟨l, hl, hql⟩ := List.mem_flatten.1 hq
  obtain ⟨r, hr', rfl⟩ := List.mem_map.1 hl
  exact rng_rec (hr r hr') q hql
theorem rng_torn3 {xs : List Int} {s k z : Nat} (h : Rng xs) : Rng (torn xs s k z) := rng_app (fun q hq => h q (List.mem_of_mem_take hq)) (fun q hq => by have := List.eq_of_mem_replicate hq; omega)
section
variable {a : Nat} {A N : List Int} {sa : Nat} {fu na ns nc : Int}
/-- The four writes of a Compact, whatever the fuse. -/
theorem tRun_four (ha : a = 0 ∨ a = 1) (hN : N.length ≤ 16777216) :
    ∃ fu' na' ns' nc', runS (sgT a A [] sa 0 false fu na ns nc) [.cut (1 - (a : Int)) 0, .app (1 - (a : Int)) N, .syn (1 - (a : Int)), .cut (a : Int) 0] = (sgT (1 - a) N [] N.length 0 false fu' na' ns' nc', 0) ∨ ∃ B sb, runS (sgT a A [] sa 0 false fu na ns nc) [.cut (1 - (a : Int)) 0, .app (1 - (a : Int)) N, .syn (1 - (a : Int)), .cut (a : Int) 0] = (sgT a A B sa sb true fu' na' ns' nc', 8) ∧ (B = [] ∧ sb = 0 ∨ B = N ∧ (sb = 0 ∨ sb = N.length)) := by
  have hb : 1 - a = 0 ∨ 1 - a = 1 := by omega
  have e1 : (1 - (a : Int)) = ((1 - a : Nat) : Int) := by omega
  have e2 : 1 - (1 - a) = a := by omega
  rw [e1]
  have z0 : (0 : Int) = ((0 : Nat) : Int) := rfl
  by_cases g1 : goesOn false fu = true
  · have s1 : opC (sgT a A [] sa 0 false fu na ns nc) (.cut ((1 - a : Nat) : Int) 0) = 0 ∧ opS (sgT a A [] sa 0 false fu na ns nc) (.cut ((1 - a : Nat) : Int) 0) = sgT a A [] sa 0 false (leftOn fu) na ns (oneMore nc) := by
      constructor
      · show cutC _ _ _ = _
        rw [sgT_swap ha]; exact (tC_cut hb (n := 0) (by simp)).trans (if_pos g1)
      · show cutS _ _ _ = _
        rw [sgT_swap ha, z0, tS_cut hb (by simp), if_pos g1, sgT_swap (a := a) ha]
        rfl
    by_cases g2 : goesOn false (leftOn fu) = true
    · have s2 : opC (sgT a A [] sa 0 false (leftOn fu) na ns (oneMore nc)) (.app ((1 - a : Nat) : Int) N) = 0 ∧ opS (sgT a A [] sa 0 false (leftOn fu) na ns (oneMore nc)) (.app ((1 - a : Nat) : Int) N) = sgT a A N sa 0 false (leftOn (leftOn fu)) (oneMore na) ns (oneMore nc) := by
        constructor
        · show appC _ _ _ = _
          rw [sgT_swap ha, tC_app hb (by simpa using hN), if_pos g2]
        · show appS _ _ _ = _
          rw [sgT_swap ha, tS_app hb (by simpa using hN), if_pos g2, sgT_swap (a := a) ha]
          rfl
      by_cases g3 : goesOn false (leftOn (leftOn fu)) = true
      · have s3 : opC (sgT a A N sa 0 false (leftOn (leftOn fu)) (oneMore na) ns (oneMore nc)) (.syn ((1 - a : Nat) : Int)) = 0 ∧ opS (sgT a A N sa 0 false (leftOn (leftOn fu)) (oneMore na) ns (oneMore nc)) (.syn ((1 - a : Nat) : Int)) = sgT a A N sa N.length false (leftOn (leftOn (leftOn fu))) (oneMore na) (oneMore ns) (oneMore nc) := by
          constructor
          · show synC _ _ = _
            rw [sgT_swap ha, tC_syn hb, if_pos g3]
          · show synS _ _ = _
            rw [sgT_swap ha, tS_syn hb, if_pos g3, sgT_swap (a := a) ha]
        by_cases g4 : goesOn false (leftOn (leftOn (leftOn fu))) = true
        · have s4 : opC (sgT a A N sa N.length false (leftOn (leftOn (leftOn fu))) (oneMore na) (oneMore ns) (oneMore nc)) (.cut (a : Int) 0) = 0 ∧ opS (sgT a A N sa N.length false (leftOn (leftOn (leftOn fu))) (oneMore na) (oneMore ns) (oneMore nc)) (.cut (a : Int) 0) = sgT (1 - a) N [] N.length 0 false (leftOn (leftOn (leftOn (leftOn fu)))) (oneMore na) (oneMore ns) (oneMore (oneMore nc)) := by
            constructor
            · show cutC _ _ _ = _
              exact (tC_cut ha (n := 0) (Nat.zero_le _)).trans (if_pos g4)
            · show cutS _ _ _ = _
              rw [z0, tS_cut ha (Nat.zero_le _), if_pos g4, sgT_swap ha, Nat.min_zero]
              rfl
          exact ⟨_, _, _, _, Or.inl (by rw [runS, if_pos s1.1, s1.2, runS, if_pos s2.1, s2.2, runS, if_pos s3.1, s3.2, runS, if_pos s4.1, s4.2, runS])⟩
        · have s4 : opC (sgT a A N sa N.length false (leftOn (leftOn (leftOn fu))) (oneMore na) (oneMore ns) (oneMore nc)) (.cut (a : Int) 0) = 8 ∧ opS (sgT a A N sa N.length false (leftOn (leftOn (leftOn fu))) (oneMore na) (oneMore ns) (oneMore nc)) (.cut (a : Int) 0) = sgT a A N sa N.length true (leftOn (leftOn (leftOn fu))) (oneMore na) (oneMore ns) (oneMore nc) := by
            constructor
            · show cutC _ _ _ = _
              exact (tC_cut ha (n := 0) (Nat.zero_le _)).trans (if_neg g4)
            · show cutS _ _ _ = _
              rw [z0, tS_cut ha (Nat.zero_le _), if_neg g4]
          exact ⟨_, _, _, _, Or.inr ⟨N, N.length, by rw [runS, if_pos s1.1, s1.2, runS, if_pos s2.1, s2.2, runS, if_pos s3.1, s3.2, runS, if_neg (by rw [s4.1]; decide), s4.2, s4.1], Or.inr ⟨rfl, Or.inr rfl⟩⟩⟩
      · have s3 : opC (sgT a A N sa 0 false (leftOn (leftOn fu)) (oneMore na) ns (oneMore nc)) (.syn ((1 - a : Nat) : Int)) = 8 ∧ opS (sgT a A N sa 0 false (leftOn (leftOn fu)) (oneMore na) ns (oneMore nc)) (.syn ((1 - a : Nat) : Int)) = sgT a A N sa 0 true (leftOn (leftOn fu)) (oneMore na) ns (oneMore nc) := by
          constructor
          · show synC _ _ = _
            rw [sgT_swap ha, tC_syn hb, if_neg g3]
          · show synS _ _ = _
            rw [sgT_swap ha, tS_syn hb, if_neg g3, sgT_swap (a := a) ha]
        exact ⟨_, _, _, _, Or.inr ⟨N, 0, by rw [runS, if_pos s1.1, s1.2, runS, if_pos s2.1, s2.2, runS, if_neg (by rw [s3.1]; decide), s3.2, s3.1], Or.inr ⟨rfl, Or.inl rfl⟩⟩⟩
    · have s2 : opC (sgT a A [] sa 0 false (leftOn fu) na ns (oneMore nc)) (.app ((1 - a : Nat) : Int) N) = 8 ∧ opS (sgT a A [] sa 0 false (leftOn fu) na ns (oneMore nc)) (.app ((1 - a : Nat) : Int) N) = sgT a A [] sa 0 true (leftOn fu) na ns (oneMore nc) := by
        constructor
        · show appC _ _ _ = _
          rw [sgT_swap ha, tC_app hb (by simpa using hN), if_neg g2]
        · show appS _ _ _ = _
          rw [sgT_swap ha, tS_app hb (by simpa using hN), if_neg g2, sgT_swap (a := a) ha]
      exact ⟨_, _, _, _, Or.inr ⟨[], 0, by rw [runS, if_pos s1.1, s1.2, runS, if_neg (by rw [s2.1]; decide), s2.2, s2.1], Or.inl ⟨rfl, rfl⟩⟩⟩
  · have s1 : opC (sgT a A [] sa 0 false fu na ns nc) (.cut ((1 - a : Nat) : Int) 0) = 8 ∧ opS (sgT a A [] sa 0 false fu na ns nc) (.cut ((1 - a : Nat) : Int) 0) = sgT a A [] sa 0 true fu na ns nc := by
      constructor
      · show cutC _ _ _ = _
        rw [sgT_swap ha]; exact (tC_cut hb (n := 0) (by simp)).trans (if_neg g1)
      · show cutS _ _ _ = _
        rw [sgT_swap ha, z0, tS_cut hb (by simp), if_neg g1, sgT_swap (a := a) ha]
    exact ⟨_, _, _, _, Or.inr ⟨[], 0, by rw [runS, if_neg (by rw [s1.1]; decide), s1.2, s1.1], Or.inl ⟨rfl, rfl⟩⟩⟩
end
end Go.Proofs.YtfkcnnjkflomkaaDoor

/-
  WalCommits: Open of such a disk, and what it mends.
-/
namespace Go.Proofs.YtfkcnnjkflomkaaDoor
open Go.RowKit Go.BigFrame

section
variable {x : World} {B K : Nat} {v0 v1 : Value} {a g : Nat} {X Y sn : List Int} {rs : List (List Int)} {sx sy : Nat} {fu na ns nc : Int}
/-- The log's area holds a generation, the other one none. -/
theorem openT (h : DskS x B K v0 v1 (sgT a X Y sx sy false fu na ns nc)) (hB : B ≤ x.heap.size) (ha : a = 0 ∨ a = 1) (hsx : sx ≤ X.length) (hsy : sy ≤ Y.length) (hX : X.length ≤ 16777216) (hY : Y.length ≤ 16777216) (rX : Rng X) (rY : Rng Y) (hH : Halves x) (pX : psS X (a : Int) = some (g, sn, rs)) (pY : psS Y (1 - (a : Int)) = none) (hg : 1 ≤ g) (hrs : ∀ d ∈ rs, d.length ≤ 20000) (hwh : 30 + sn.length + sizes rs ≤ X.length) (hrl : rs.length ≤ 16777216) :
    Calls Tryd.prog 14 #[.pointer (some ⟨K, 0, none⟩)] x (OpenG x B K v0 v1 (sgT a X Y sx sy false fu na ns nc) (mendOps ⟨g, none, 0, 0, none, 0, 0, X.length, sx, 30 + sn.length + sizes rs⟩ ⟨0, none, 0, 0, none, 0, 0, Y.length, 0, 0⟩) g sn rs ((Y.length : Int) + X.length - ((30 + sn.length + sizes rs : Nat) : Int)) ((30 + sn.length + sizes rs : Nat) : Int)) := by
  rcases ha with rfl | rfl
  · refine lOpen_gen (nb := X) (na := 0) (ns := sx) (os_ := Y.length) h hB rfl ⟨hsx, hsy, hX, hY⟩ rX rY hH hdR (fun w' f0 f1 k0 k1 => ?_) hX hY pX hrs hwh hrl
    have e0 := fnd_gen k0 pX
    have e1 := fnd_none k1 pY
    exact ⟨f0, f1, fun y => choose_first_alone y (by rw [e0.1, e1.1]; omega) (by rw [e0.1]; omega) e1.1, k0, e1.2⟩
  · refine lOpen_gen (nb := X) (na := 1) (ns := sx) (os_ := Y.length) h hB rfl ⟨hsy, hsx, hY, hX⟩ rY rX hH hdR (fun w' f0 f1 k0 k1 => ?_) hX hY pX hrs hwh hrl
    have e0 := fnd_none k0 pY
    have e1 := fnd_gen k1 pX
    exact ⟨f1, f0, fun y => choose_second_alone y (by rw [e0.1, e1.1]; omega) (by rw [e1.1]; omega) e0.1, k1, e0.2⟩
/-- Both areas hold one: the younger. -/
theorem openT_new {tn : List Int} {ds : List (List Int)} (h : DskS x B K v0 v1 (sgT a X Y sx sy false fu na ns nc)) (hB : B ≤ x.heap.size) (ha : a = 0 ∨ a = 1) (hsx : sx ≤ X.length) (hsy : sy ≤ Y.length) (hX : X.length ≤ 16777216) (hY : Y.length ≤ 16777216) (rX : Rng X) (rY : Rng Y) (hH : Halves x) (pX : psS X (a : Int) = some (g, sn, rs)) (pY : psS Y (1 - (a : Int)) = some (g + 1, tn, ds)) (hg : 1 ≤ g) (hg1 : g < 4611686018427387904) (hds : ∀ d ∈ ds, d.length ≤ 20000) (hwh : 30 + tn.length + sizes ds ≤ Y.length) (hrl : ds.length ≤ 16777216) :
    Calls Tryd.prog 14 #[.pointer (some ⟨K, 0, none⟩)] x (OpenG x B K v0 v1 (sgT a X Y sx sy false fu na ns nc) (mendOps ⟨(g + 1 : Nat), none, 0, 0, none, 0, 0, Y.length, sy, 30 + tn.length + sizes ds⟩ ⟨0, none, 0, 0, none, 0, 0, X.length, 0, 0⟩) (g + 1) tn ds ((X.length : Int) + Y.length - ((30 + tn.length + sizes ds : Nat) : Int)) ((30 + tn.length + sizes ds : Nat) : Int)) := by
  have hw : IntKind.u64.wrap ((g : Int) + 1) = ((g + 1 : Nat) : Int) := by
    rw [wrap_u64 (by omega) (by omega)]
    omega
  rcases ha with rfl | rfl
  · refine lOpen_gen (nb := Y) (na := 1) (ns := sy) (os_ := X.length) h hB rfl ⟨hsx, hsy, hX, hY⟩ rX rY hH hdR (fun w' f0 f1 k0 k1 => ?_) hY hX pY hds hwh hrl
    have e0 := fnd_gen k0 pX
    have e1 := fnd_gen k1 pY
    exact ⟨f1, f0, fun y => choose_second y (by rw [e0.1, e1.1]; omega) (by rw [e1.1]; omega) ⟨by rw [e0.1]; omega, by rw [e0.1, e1.1]; exact hw⟩, k1, e0.2⟩
  · refine lOpen_gen (nb := Y) (na := 0) (ns := sy) (os_ := X.length) h hB rfl ⟨hsy, hsx, hY, hX⟩ rY rX hH hdR (fun w' f0 f1 k0 k1 => ?_) hY hX pY hds hwh hrl
    have e0 := fnd_gen k0 pY
    have e1 := fnd_gen k1 pX
    exact ⟨f0, f1, fun y => choose_first y (by rw [e0.1, e1.1]; omega) (by rw [e0.1]; omega) ⟨by rw [e1.1]; omega, by rw [e0.1, e1.1]; exact hw⟩, k0, e1.2⟩
end
section
variable {a g : Nat} {X Y : List Int} {sx sy wh : Nat} {fu na ns nc : Int}
/-- What Open writes behind a crash: nothing is refused. -/
theorem mend_dry (ha : a = 0 ∨ a = 1) (hg : (g : Int) % 2 = a) (hsy : sy ≤ Y.length) (hwh : wh ≤ X.length) :
    ∃ nc', runS (sgT a X Y X.length sy false (-1) na ns nc) (mendOps ⟨g, none, 0, 0, none, 0, 0, X.length, X.length, wh⟩ ⟨0, none, 0, 0, none, 0, 0, Y.length, 0, 0⟩) = (sgT a (X.take wh) [] wh 0 false (-1) na ns nc', 0) := by
  have hb : 1 - a = 0 ∨ 1 - a = 1 := by omega
  have e1 : (1 - (a : Int)) = ((1 - a : Nat) : Int) := by omega
  have z0 : (0 : Int) = ((0 : Nat) : Int) := rfl
  have gg : goesOn false (-1) = true := rfl
  have lf : leftOn (-1) = -1 := rfl
  have ops : mendOps ⟨g, none, 0, 0, none, 0, 0, X.length, X.length, wh⟩ ⟨0, none, 0, 0, none, 0, 0, Y.length, 0, 0⟩ = (if 0 < Y.length then [Dop.cut ((1 - a : Nat) : Int) 0] else []) ++ (if wh < X.length then [Dop.cut (a : Int) wh] else []) := by
    unfold mendOps
    simp only [hg, e1, if_neg (show ¬ X.length < wh by omega), List.append_nil]
  rw [ops]
  have second : ∀ nc, ∃ nc', runS (sgT a X [] X.length 0 false (-1) na ns nc) (if wh < X.length then [Dop.cut (a : Int) wh] else []) = (sgT a (X.take wh) [] wh 0 false (-1) na ns nc', 0) := fun nc => by
    by_cases hw : wh < X.length
    · rw [if_pos hw]
      have s : opC (sgT a X [] X.length 0 false (-1) na ns nc) (.cut (a : Int) wh) = 0 ∧ opS (sgT a X [] X.length 0 false (-1) na ns nc) (.cut (a : Int) wh) = sgT a (X.take wh) [] wh 0 false (-1) na ns (oneMore nc) := by
        constructor
        · show cutC _ _ _ = _
          rw [tC_cut ha hwh, if_pos gg]
        · show cutS _ _ _ = _
          rw [tS_cut ha hwh, if_pos gg, lf, Nat.min_eq_right hwh]
      exact ⟨_, by rw [runS, if_pos s.1, s.2, runS]⟩
    · rw [if_neg hw]
      have : wh = X.length := by omega
      subst this
      exact ⟨nc, by rw [runS, List.take_length]⟩
  by_cases hY : 0 < Y.length
  · rw [if_pos hY]
    have s : opC (sgT a X Y X.length sy false (-1) na ns nc) (.cut ((1 - a : Nat) : Int) 0) = 0 ∧ opS (sgT a X Y X.length sy false (-1) na ns nc) (.cut ((1 - a : Nat) : Int) 0) = sgT a X [] X.length 0 false (-1) na ns (oneMore nc) := by
      constructor
      · show cutC _ _ _ = _
        rw [sgT_swap ha]; exact (tC_cut hb (n := 0) (Nat.zero_le _)).trans (if_pos gg)
      · show cutS _ _ _ = _
        rw [sgT_swap ha, z0, tS_cut hb (Nat.zero_le _), if_pos gg, lf, Nat.min_zero, sgT_swap (a := a) ha]
        rfl
    obtain ⟨nc', h⟩ := second (oneMore nc)
    refine ⟨nc', ?_⟩
    rw [List.singleton_append, runS, if_pos s.1, s.2, h]
  · rw [if_neg hY, List.nil_append]
    have hY0 : Y = [] := List.eq_nil_of_length_eq_zero (by omega)
    subst hY0
    have : sy = 0 := by simpa using hsy
    subst this
    exact second nc
/-- What Open writes while the log is there. -/
theorem mend_wet (ha : a = 0 ∨ a = 1) (hg : (g : Int) % 2 = a) (hsx : sx ≤ X.length) :
    ∃ fu' ns', runS (sgT a X [] sx 0 false fu na ns nc) (mendOps ⟨g, none, 0, 0, none, 0, 0, X.length, sx, X.length⟩ ⟨0, none, 0, 0, none, 0, 0, ([] : List Int).length, 0, 0⟩) = (sgT a X [] X.length 0 false fu' na ns' nc, 0) ∨ runS (sgT a X [] sx 0 false fu na ns nc) (mendOps ⟨g, none, 0, 0, none, 0, 0, X.length, sx, X.length⟩ ⟨0, none, 0, 0, none, 0, 0, ([] : List Int).length, 0, 0⟩) = (sgT a X [] sx 0 true fu' na ns' nc, 8) := by
  have ops : mendOps ⟨g, none, 0, 0, none, 0, 0, X.length, sx, X.length⟩ ⟨0, none, 0, 0, none, 0, 0, ([] : List Int).length, 0, 0⟩ = if sx < X.length then [Dop.syn (a : Int)] else [] := by
    unfold mendOps
    simp [hg]
  rw [ops]
  by_cases hs : sx < X.length
  · rw [if_pos hs]
    by_cases g1 : goesOn false fu = true
    · have s : opC (sgT a X [] sx 0 false fu na ns nc) (.syn (a : Int)) = 0 ∧ opS (sgT a X [] sx 0 false fu na ns nc) (.syn (a : Int)) = sgT a X [] X.length 0 false (leftOn fu) na (oneMore ns) nc := by
        constructor
        · show synC _ _ = _
          rw [tC_syn ha, if_pos g1]
        · show synS _ _ = _
          rw [tS_syn ha, if_pos g1]
      exact ⟨_, _, Or.inl (by rw [runS, if_pos s.1, s.2, runS])⟩
    · have s : opC (sgT a X [] sx 0 false fu na ns nc) (.syn (a : Int)) = 8 ∧ opS (sgT a X [] sx 0 false fu na ns nc) (.syn (a : Int)) = sgT a X [] sx 0 true fu na ns nc := by
        constructor
        · show synC _ _ = _
          rw [tC_syn ha, if_neg g1]
        · show synS _ _ = _
          rw [tS_syn ha, if_neg g1]
      exact ⟨_, _, Or.inr (by rw [runS, if_neg (by rw [s.1]; decide), s.2, s.1])⟩
  · rw [if_neg hs]
    have : sx = X.length := by omega
    subst this
    exact ⟨fu, ns, Or.inl (by rw [runS])⟩
end
end Go.Proofs.YtfkcnnjkflomkaaDoor

/-
  WalCommits: records as a snapshot: laidOut.
-/
namespace Go.Proofs.YtfkcnnjkflomkaaDoor
open Go.RowKit Go.BigFrame

/-- A record within a snapshot: two bytes of length ahead of it. -/
def layB (d : List Int) : List Int := [(d.length : Int) / 256, (d.length : Int) % 256] ++ d
def laid (l : List (List Int)) : List Int := (l.map layB).flatten
theorem laid_snoc (l : List (List Int)) (d : List Int) : laid (l ++ [d]) = laid l ++ layB d := by simp [laid]
theorem laid_app (l k : List (List Int)) : laid (l ++ k) = laid l ++ laid k := by simp [laid]
theorem laid_cons (d : List Int) (l : List (List Int)) : laid (d :: l) = layB d ++ laid l := by simp [laid]
theorem layB_len (d : List Int) : (layB d).length = d.length + 2 := by simp [layB]
/-- How many bytes that takes. -/
def lays (l : List (List Int)) : Nat := (l.map (fun d => d.length + 2)).sum
theorem laid_len : ∀ l : List (List Int), (laid l).length = lays l
  | [] => rfl
  | d :: l => by
    rw [laid_cons, List.length_append, layB_len, laid_len l]
    simp [lays]
theorem lays_app (l k : List (List Int)) : lays (l ++ k) = lays l + lays k := by simp [lays]
theorem lays_take (l : List (List Int)) (j : Nat) : lays (l.take j) ≤ lays l := by
  have := lays_app (l.take j) (l.drop j)
  rw [List.take_append_drop] at this
  omega
theorem len_lays : ∀ l : List (List Int), 2 * l.length ≤ lays l
  | [] => by simp [lays]
  | d :: l => by
    have := len_lays l
    simp [lays] at this ⊢
    omega
theorem sizes_lays : ∀ l : List (List Int), (∀ d ∈ l, 1 ≤ d.length) → sizes l ≤ 5 * lays l
  | [], _ => by simp [sizes, lays]
  | d :: l, h => by
    have h1 := sizes_lays l (fun e he => h e (List.mem_cons_of_mem _ he))
    have h2 := h d (List.mem_cons_self ..)
    simp [sizes, lays] at h1 ⊢
    omega
theorem rng_laid {l : List (List Int)} (h : ∀ d ∈ l, Rng d) (hl : ∀ d ∈ l, d.length ≤ 20000) : Rng (laid l) := by
  intro q hq
  unfold laid at hq
  obtain ⟨k, hk, hqk⟩ := List.mem_flatten.1 hq
  obtain ⟨d, hd, rfl⟩ := List.mem_map.1 hk
  unfold layB at hqk
  rcases List.mem_append.1 hqk with h1 | h1
  · have := hl d hd
    simp at h1
    omega
  · exact h d hd q h1
/-- append of two bytes. -/
theorem run_push2 {w : World} {B : Nat} {v : Value} {xs : List Int} (h : Row w B v xs) (hB : B ≤ w.heap.size) (hl : xs.length + 2 ≤ 140737488355328) (z0 z1 : Int) :
    ∃ a n c w', (Builtin.append_ #[28, 28] 28 #[v, .slice (some ⟨w.heap.size, 0, none⟩) 2 2]).run Tryd.prog (w.alloc (.cells #[.int .u8 z0, .int .u8 z1] 5)) = .ok (.slice a n c) w' ∧ Row w' B (.slice a n c) (xs ++ [z0, z1]) ∧ Off (fun k => v.ownBlock = some k) w w' ∧ ((Value.slice a n c).ownBlock = v.ownBlock ∨ ∃ g, (Value.slice a n c).ownBlock = some g ∧ w.heap.size ≤ g) := by
  have hrow : Row (w.alloc (.cells #[.int .u8 z0, .int .u8 z1] 5)) B v xs := h.keep (fun g e => ((Below.refl w.heap.size w).alloc (Nat.le_refl _) (.cells #[.int .u8 z0, .int .u8 z1] 5)).block g (h.lt e).2)
  have hone : Byts (w.alloc (.cells #[.int .u8 z0, .int .u8 z1] 5)) (some ⟨w.heap.size, 0, none⟩) 2 [z0, z1] := by
    refine ⟨rfl, fun q hq => ⟨w.heap.size, 0, rfl, by simp, ?_⟩⟩
    rcases (by omega : q = 0 ∨ q = 1) with rfl | rfl <;> simp
  obtain ⟨v', w', hr, r, g, o⟩ := run_append_bytes (c := 2) hrow hone (fun e => by cases e) hl (by simp; omega) 28
  rcases r.form with ⟨rfl, e⟩ | ⟨g', cap, rfl, _⟩
  · simp at e
  · refine ⟨_, _, _, w', hr, r, ((Off.refl _ w).alloc _).trans (Off.of_grown g), ?_⟩
    rcases o with o | o
    · exact Or.inl o
    · exact Or.inr ⟨_, o, by simp⟩
theorem row_below {x w w' : World} {v : Value} {xs : List Int} (hb : Below x.heap.size x w) (hr : Row w x.heap.size v xs) (ho : Off (fun k => v.ownBlock = some k) w w') : Below x.heap.size x w' := hb.trans (ho.below hb.size (fun _ e => (hr.lt e).1))
set_option maxRecDepth 100000 in
set_option maxHeartbeats 4000000 in
theorem laidOut_any {x : World} {N : Nat} {ao : Option Addr} {ac : Nat} {vs : List Value} {al : List (List Int)} (hv : VRow x N 28 (.slice ao vs.length ac) vs) (pv : Pcs x vs al) (hn : vs.length ≤ 16777216) (hl : lays al ≤ 16777216) (hd : ∀ d ∈ al, d.length ≤ 20000) :
    Calls Tryd.prog 42 #[.slice ao vs.length ac] x fun e w' => ∃ a n c, e = .returned (.slice a n c) ∧ Row w' x.heap.size (.slice a n c) (laid al) ∧ Below x.heap.size x w' := by
  have HS : Hid (VRow x N 28 (.slice ao vs.length ac) vs ∧ Pcs x vs al ∧ lays al ≤ 16777216 ∧ ∀ d ∈ al, d.length ≤ 20000) := ⟨hv, pv, hl, hd⟩
  obtain ⟨n, hnn⟩ : ∃ n, vs.length = n := ⟨_, rfl⟩
  have HN : Hid (vs.length = n) := hnn
  rw [hnn] at hn ⊢
  clear hv pv hl hd hnn
  have hni : (n : Int) ≤ 16777216 := by omega
  go_enter Tryd.func42, Tryd.ntmps42
  go_wp2_with fail
  go_loopw [3, 4, 5] (fun t3 t4 _ wx => ∃ (j : Nat) (a : Option Addr) (m c : Nat), j ≤ n ∧ t3 = .slice a m c ∧ t4 = .int .i64 j ∧ Hid (Row wx x.heap.size (.slice a m c) (laid (al.take j)) ∧ Below x.heap.size x wx)) (fun _ t4 _ _ => n - (intOf t4).toNat)
  case atStart => exact ⟨0, none, 0, 0, by omega, rfl, rfl, by rw [List.take_zero]; exact Row.nil _ _, Below.refl _ _⟩
  case round =>
    obtain ⟨j, a, m, c, hj, rfl, rfl, HK⟩ := hrel
    by_cases hlt : j < n
    · have hlti : (j : Int) < n := by omega
      obtain ⟨u, hju⟩ : ∃ u, vs[j]? = some u := ⟨_, List.getElem?_eq_getElem (by have := HN.out; omega)⟩
      obtain ⟨hv, pv, hl, hd⟩ := HS.out
      obtain ⟨d, hjd⟩ : ∃ d, al[j]? = some d := ⟨_, List.getElem?_eq_getElem (by have := HN.out; have := pv.1; omega)⟩
      obtain ⟨ua, uc, rfl, hub, huo⟩ := pv.2 j u d hju hjd
      obtain ⟨ga, rfl⟩ : ∃ g, ao = some ⟨g, 0, none⟩ := by
        rcases hv.form with ⟨e, h0⟩ | ⟨g, cap, e, _⟩
        · rw [h0] at hju; cases hju
        · cases e; exact ⟨g, rfl⟩
      have hdl := hd d (List.mem_of_getElem? hjd)
      have hlt' := lays_take al j
      have hll := laid_len (al.take j)
      have hsl := hv.slot hju
      obtain ⟨a1, m1, c1, w1, e1, r1, o1, _⟩ := run_push2 HK.out.1 HK.out.2.size (by omega) ((d.length : Int) / 256) ((d.length : Int) % 256)
      have b1 := row_below HK.out.2 HK.out.1 o1
      obtain ⟨v2, w2, e2, r2, g2, _⟩ := run_append_bytes (c := uc) r1 (hub.below b1) huo (by simp; omega) b1.size 28
      have b2 := row_below b1 r1 (Off.of_grown g2)
      obtain ⟨a2, m2, c2, rfl⟩ : ∃ a m c, v2 = .slice a m c := by
        rcases r2.form with ⟨e, _⟩ | ⟨g, cap, e, _⟩
        · exact ⟨_, _, _, e⟩
        · exact ⟨_, _, _, e⟩
      have f1 : wr.cell? ⟨ga, j, none⟩ = some (.slice ua d.length uc) := (HK.out.2.cell (p := ⟨ga, j, none⟩) (cell_lt hsl)).trans hsl
      have f2 : w1.cell? ⟨ga, j, none⟩ = some (.slice ua d.length uc) := (b1.cell (p := ⟨ga, j, none⟩) (cell_lt hsl)).trans hsl
      have HF : Hid (Row w2 x.heap.size (.slice a2 m2 c2) (laid (al.take (j + 1))) ∧ Below x.heap.size x w2) := by
        refine ⟨?_, b2⟩
        have e : al.take (j + 1) = al.take j ++ [d] := by rw [List.take_add_one, hjd]; rfl
        rw [e, laid_snoc]
        unfold layB
        rw [← List.append_assoc]
        exact r2
      clear hv pv hl hd hub huo hju hjd r1 o1 b1 r2 g2 b2 hsl hll hlt'
      have hdi : (d.length : Int) ≤ 20000 := by omega
      have hdi0 : (0 : Int) ≤ (d.length : Int) := by omega
      go_wp2_with (at_builtin; first | refine wpList_append_run rfl (.tmp 17) (.tmp 23) 28 _ rfl e1 ?_ | refine wpList_append_run rfl (.tmp 25) (.tmp 29) 28 _ rfl e2 ?_)
      go_roundw
      case rel => exact ⟨j + 1, _, _, _, by omega, rfl, by go_num, HF.out⟩
      case measure => simp [intOf]; omega
    · have hlti : ¬ (j : Int) < n := by omega
      have hjn : j = n := by omega
      subst hjn
      go_wp2_with fail
      go_ret
      refine ⟨_, _, _, rfl, ?_, HK.out.2⟩
      have := HK.out.1
      rwa [List.take_of_length_le (by have := HN.out; have := HS.out.2.1.1; omega)] at this
end Go.Proofs.YtfkcnnjkflomkaaDoor

/-
  WalCommits: all records that a replay stands for: whole.
-/
namespace Go.Proofs.YtfkcnnjkflomkaaDoor
open Go.RowKit Go.BigFrame

def sliceLen : Value → Nat
  | .slice _ m _ => m
  | _ => 0
theorem laid_empty {l : List (List Int)} (h : laid l = []) : l = [] := by
  cases l with
  | nil => rfl
  | cons d l =>
    have := congrArg List.length h
    rw [laid_cons, List.length_append, layB_len] at this
    simp at this
/-- What whole answers. -/
def WhQ (x : World) (al : List (List Int)) (e : Ending) (w' : World) : Prop := ∃ a n k vs, e = .returned (.tuple #[.slice a n k, .bool true]) ∧ VRow w' x.heap.size 28 (.slice a n k) vs ∧ Pcs w' vs al ∧ Below x.heap.size x w'
theorem vrow_below {x w w' : World} {v : Value} {xs : List Value} (hb : Below x.heap.size x w) (hr : VRow w x.heap.size 28 v xs) (ho : Off (fun k => v.ownBlock = some k) w w') : Below x.heap.size x w' := hb.trans (ho.below hb.size (fun _ e => (hr.lt e).1))
theorem i64_wrap {z : Nat} (h : z < 9223372036854775808) : IntKind.i64.wrap (z : Int) = z := wrap_id (by omega) (by omega)
theorem or_len {n : Nat} (h : n ≤ 20000) : bits BinOp.or IntKind.i64 ((n : Int) / 256 * 256) ((n : Int) % 256) = n := by
  have e1 : (n : Int) / 256 * 256 = ((n / 256 * 256 : Nat) : Int) := by omega
  have e2 : (n : Int) % 256 = ((n % 256 : Nat) : Int) := by omega
  rw [e1, e2]
  show IntKind.i64.wrap ((BitVec.ofInt 64 ((n / 256 * 256 : Nat) : Int) ||| BitVec.ofInt 64 ((n % 256 : Nat) : Int)).toNat : Nat) = _
  have k1 : (BitVec.ofInt 64 ((n / 256 * 256 : Nat) : Int)).toNat = n / 256 * 256 := by rw [BitVec.toNat_ofInt]; omega
  have k2 : (BitVec.ofInt 64 ((n % 256 : Nat) : Int)).toNat = n % 256 := by rw [BitVec.toNat_ofInt]; omega
  have k3 : n / 256 * 256 ||| n % 256 = n := by
    have := Nat.shiftLeft_add_eq_or_of_lt (i := 8) (b := n % 256) (by omega) (n / 256)
    rw [Nat.shiftLeft_eq] at this
    rw [← this]
    omega
  rw [BitVec.toNat_or, k1, k2, k3, i64_wrap (by omega)]
set_option maxRecDepth 100000 in
set_option maxHeartbeats 8000000 in
theorem whole_ok {x : World} {g tn : Int} {sa ra : Option Addr} {sl sc rc N : Nat} {us : List Value} {base ds : List (List Int)} (hs : Byts x sa sl (laid base)) (hsc : sl ≤ sc) (hsm : sc ≤ maxLen) (hso : sa = none → sc = 0) (hr : VRow x N 28 (.slice ra us.length rc) us) (pr : Pcs x us ds) (hb : lays base ≤ 16777216) (hbl : ∀ d ∈ base, 1 ≤ d.length ∧ d.length ≤ 20000) (hn : us.length ≤ 16777216) :
    Calls Tryd.prog 63 #[.agg #[.int .u64 g, .slice sa sl sc, .slice ra us.length rc, .int .i64 tn]] x (WhQ x (base ++ ds)) := by
  obtain ⟨n, hnn⟩ : ∃ n, us.length = n := ⟨_, rfl⟩
  have HN : Hid (us.length = n) := hnn
  obtain ⟨W0, hW0⟩ : ∃ W, x.alloc (.cells #[.int .u64 g, .slice sa sl sc, .slice ra n rc, .int .i64 tn] 44) = W := ⟨_, rfl⟩
  have HW0 : Hid (x.alloc (.cells #[.int .u64 g, .slice sa sl sc, .slice ra n rc, .int .i64 tn] 44) = W0) := hW0
  have b0 : Below x.heap.size x W0 := by rw [← hW0]; exact (Below.refl _ _).alloc (Nat.le_refl _) _
  have HB0 : Hid (Below x.heap.size x W0) := b0
  have hc2 : W0.cell? ⟨x.heap.size, 2, none⟩ = some (.slice ra n rc) := by rw [← hW0]; exact World.cell?_alloc_new _ _ _ _
  have HC2 : Hid (W0.cell? ⟨x.heap.size, 2, none⟩ = some (.slice ra n rc)) := hc2
  have HS : Hid (VRow W0 N 28 (.slice ra us.length rc) us ∧ Pcs W0 us ds ∧ lays base ≤ 16777216 ∧ ∀ d ∈ base, 1 ≤ d.length ∧ d.length ≤ 20000) := ⟨hr.off (Off.of_below (P := fun _ => False) b0) (fun _ _ => id), pr.below b0, hb, hbl⟩
  have HBy : Hid (Byts W0 sa sl (laid base) ∧ sl ≤ sc ∧ sc ≤ maxLen ∧ (sa = none → sc = 0)) := ⟨hs.below b0, hsc, hsm, hso⟩
  rw [hnn] at hn ⊢
  have hni : (n : Int) ≤ 16777216 := by omega
  clear hs hsc hsm hso hr pr hb hbl hnn hW0 b0 hc2
  go_enter Tryd.func63, Tryd.ntmps63
  go_wp2_with fail
  rw [HW0.out]
  go_loopw [4, 5, 6] (fun t4 t5 _ wx => ∃ (i : Nat) (av : Option Addr) (nv cv : Nat) (vi : List Value) (po : Option Addr) (m c : Nat), t4 = .slice av nv cv ∧ t5 = .slice po m c ∧ Hid (i ≤ base.length ∧ VRow wx W0.heap.size 28 (.slice av nv cv) vi ∧ Pcs W0 vi (base.take i) ∧ Byts W0 po m (laid (base.drop i)) ∧ m ≤ c ∧ c ≤ maxLen ∧ (po = none → c = 0) ∧ Below W0.heap.size W0 wx)) (fun _ t5 _ _ => sliceLen t5)
  case atStart => exact ⟨0, none, 0, 0, [], sa, sl, sc, rfl, rfl, Nat.zero_le _, VRow.nil _ _ _, ⟨rfl, fun j u d hu => by simp at hu⟩, by rw [List.drop_zero]; exact HBy.out.1, HBy.out.2.1, HBy.out.2.2.1, HBy.out.2.2.2, Below.refl _ _⟩
  case round =>
    obtain ⟨i, av, nv, cv, vi, po, m, c, rfl, rfl, HK⟩ := hrel
    by_cases hm : m = 0
    · subst hm
      obtain ⟨hi, hv, pv, hby, _, _, _, hbw⟩ := HK.out
      have hdr : base.drop i = [] := laid_empty (List.eq_nil_of_length_eq_zero hby.len)
      have hib : base.length ≤ i := by simpa using hdr
      rw [List.take_of_length_le hib] at pv
      have HK2 : Hid (VRow wr W0.heap.size 28 (.slice av nv cv) vi ∧ Pcs W0 vi base ∧ Below W0.heap.size W0 wr) := ⟨hv, pv, hbw⟩
      clear hi hv pv hby hbw hdr hib HK
      go_wp2_with fail
      go_loopw [4, 7] (fun t4 t7 wx => ∃ (j : Nat) (aw : Option Addr) (nw cw : Nat), j ≤ n ∧ t4 = .slice aw nw cw ∧ t7 = .int .i64 j ∧ Hid (VRow wx W0.heap.size 28 (.slice aw nw cw) (vi ++ us.take j) ∧ Pcs W0 (vi ++ us.take j) (base ++ ds.take j) ∧ Below W0.heap.size W0 wx)) (fun _ t7 _ => n - (intOf t7).toNat)
      case atStart => exact ⟨0, av, nv, cv, by omega, rfl, rfl, by rw [List.take_zero, List.append_nil]; exact HK2.out.1, by rw [List.take_zero, List.append_nil, List.take_zero, List.append_nil]; exact HK2.out.2.1, HK2.out.2.2⟩
      case round =>
        obtain ⟨j, aw, nw, cw, hj, rfl, rfl, HR⟩ := hrel
        have c2 := below_cell HR.out.2.2 HC2.out
        by_cases hlt : j < n
        · have hlti : (j : Int) < n := by omega
          obtain ⟨u, hju⟩ : ∃ u, us[j]? = some u := ⟨_, List.getElem?_eq_getElem (by have := HN.out; omega)⟩
          obtain ⟨hv, pv, _, _⟩ := HS.out
          obtain ⟨d, hjd⟩ : ∃ d, ds[j]? = some d := ⟨_, List.getElem?_eq_getElem (by have := HN.out; have := pv.1; omega)⟩
          obtain ⟨ua, uc, rfl, hub, huo⟩ := pv.2 j u d hju hjd
          obtain ⟨ga, rfl⟩ : ∃ g, ra = some ⟨g, 0, none⟩ := by
            rcases hv.form with ⟨e, h0⟩ | ⟨g, cap, e, _⟩
            · rw [h0] at hju; cases hju
            · cases e; exact ⟨g, rfl⟩
          have c3 := below_cell HR.out.2.2 (hv.slot hju)
          obtain ⟨a2, n2, k2, w9, e9, r9, o9, _⟩ := run_vpush HR.out.1 HR.out.2.2.size (by have h1 := HK2.out.2.1.1; have h2 := len_lays base; have h4 := HS.out.2.2.1; simp; omega) (.slice ua d.length uc) rfl
          have HF : Hid (VRow w9 W0.heap.size 28 (.slice a2 n2 k2) (vi ++ us.take (j + 1)) ∧ Pcs W0 (vi ++ us.take (j + 1)) (base ++ ds.take (j + 1)) ∧ Below W0.heap.size W0 w9) := by
            have e1 : us.take (j + 1) = us.take j ++ [.slice ua d.length uc] := by rw [List.take_add_one, hju]; rfl
            have e2 : ds.take (j + 1) = ds.take j ++ [d] := by rw [List.take_add_one, hjd]; rfl
            rw [e1, e2, ← List.append_assoc, ← List.append_assoc]
            exact ⟨r9, HR.out.2.1.snoc hub huo, vrow_below HR.out.2.2 HR.out.1 o9⟩
          clear hv pv hub huo hju hjd r9 o9
          go_wp2_with (at_builtin; refine wpList_append_run rfl (.tmp 49) (.tmp 55) 22 _ rfl e9 ?_)
          go_roundw
          case rel => exact ⟨j + 1, a2, n2, k2, by omega, rfl, by go_num, HF.out⟩
          case measure => simp [intOf]; omega
        · have hlti : ¬ (j : Int) < n := by omega
          have HE : Hid (us.take j = us ∧ ds.take j = ds) := ⟨List.take_of_length_le (by have := HN.out; omega), List.take_of_length_le (by have := HN.out; have := HS.out.2.1.1; omega)⟩
          go_wp2_with fail
          go_ret2
          refine ⟨_, _, _, vi ++ us, rfl, ?_, ?_, below_then HB0.out HR.out.2.2⟩
          · have := HR.out.1
            rw [HE.out.1] at this
            exact this.low HB0.out.size
          · have := HR.out.2.1.below HR.out.2.2
            rw [HE.out.1, HE.out.2] at this
            exact this
    · have hmi : (0 : Int) < m := by omega
      obtain ⟨hi, hv, pv, hby, hmc, hcm, hpo, hbw⟩ := HK.out
      have hbl := hby.len
      obtain ⟨d, hd⟩ : ∃ d, base[i]? = some d := by
        rcases Nat.lt_or_ge i base.length with h | h
        · exact ⟨_, List.getElem?_eq_getElem h⟩
        · rw [List.drop_of_length_le h] at hbl
          simp [laid] at hbl
          omega
      have hdr : base.drop i = d :: base.drop (i + 1) := by
        obtain ⟨hl, he⟩ := List.getElem?_eq_some_iff.1 hd
        rw [List.drop_eq_getElem_cons hl, he]
      rw [hdr, laid_cons] at hby hbl
      have hdl := HS.out.2.2.2 d (List.mem_of_getElem? hd)
      rw [List.length_append, layB_len] at hbl
      obtain ⟨b, o, rfl, hlb, f0⟩ := hby.cell 0 (by omega)
      obtain ⟨b', o', e', _, f1⟩ := hby.cell 1 (by omega)
      obtain ⟨rfl, rfl⟩ : b = b' ∧ o = o' := by simpa using e'
      have k0 : wr.cell? ⟨b, o, none⟩ = some (.int .u8 ((d.length : Int) / 256)) := by
        rw [hbw.cell (p := ⟨b, o, none⟩) hlb]
        simpa [layB] using f0
      have k1 : wr.cell? ⟨b, o + 1, none⟩ = some (.int .u8 ((d.length : Int) % 256)) := by
        rw [hbw.cell (p := ⟨b, o + 1, none⟩) hlb]
        simpa [layB] using f1
      have hm2 : ¬ (m : Int) < 2 := by omega
      have hm1 : (1 : Int) < m := by omega
      have qor := or_len hdl.2
      have hc2n : ¬ c = 2 := by omega
      have hc2i : ¬ (c : Int) = 2 := by omega
      have hdi : (d.length : Int) ≤ 20000 := by omega
      have hmd : (d.length : Int) + 2 ≤ m := by omega
      have hcd : (d.length : Int) + 2 ≤ c := by omega
      have hcm' : (c : Int) ≤ 9223372036854775807 := by unfold maxLen at hcm; omega
      have s1 : IntKind.i64.wrap ((m : Int) - 2) = m - 2 := wrap_id (by omega) (by omega)
      have s2 : IntKind.i64.wrap (2 + (d.length : Int)) = 2 + d.length := wrap_id (by omega) (by omega)
      have hcmp : ¬ (m : Int) - 2 < d.length := by omega
      have hcmd : decide ((m : Int) - 2 < d.length) = false := decide_eq_false hcmp
      have hlo : (2 : Int) ≤ 2 + d.length := by omega
      have hhi : (2 : Int) + d.length ≤ c := by omega
      have hhm : (2 : Int) + d.length ≤ m := by omega
      have HBy2 : Hid (Byts W0 (some ⟨b, o, none⟩) m (layB d ++ laid (base.drop (i + 1))) ∧ base[i]? = some d ∧ m = d.length + 2 + (laid (base.drop (i + 1))).length) := ⟨hby, hd, hbl.symm⟩
      clear hi hv pv hby hbw f0 f1 e'
      go_wp2_with fail
      go_quiet (fail)
      obtain ⟨X, hX⟩ : ∃ X, wr.drewN nq = X := ⟨_, rfl⟩
      have HX : Hid (Below W0.heap.size W0 X ∧ VRow X W0.heap.size 28 (.slice av nv cv) vi) := by
        rw [← hX]
        exact ⟨HK.out.2.2.2.2.2.2.2.trans ⟨rfl, rfl, rfl, Nat.le_refl _, fun _ _ => rfl⟩, HK.out.2.1.off ((Off.refl (fun _ => False) wr).drewN _) (fun _ _ => id)⟩
      rw [hX]
      obtain ⟨a2, n2, k2, w9, e9, r9, o9, _⟩ := run_vpush HX.out.2 HX.out.1.size (by have h1 := HK.out.2.2.1.1; have h2 := len_lays (base.take i); have h3 := lays_take base i; have h4 := HS.out.2.2.1; omega) (.slice (some ⟨b, o + 2, none⟩) d.length (c - 2)) rfl
      by_cases hce : c = 2 + d.length
      · have hmm : m = 2 + d.length := by omega
        have hce' : (c : Int) = 2 + d.length := by omega
        subst hmm
        subst hce
        have hs2 : 2 + d.length - 2 = d.length := by omega
        rw [hs2] at e9 r9
        have HF : Hid (i + 1 ≤ base.length ∧ VRow w9 W0.heap.size 28 (.slice a2 n2 k2) (vi ++ [.slice (some ⟨b, o + 2, none⟩) d.length d.length]) ∧ Pcs W0 (vi ++ [.slice (some ⟨b, o + 2, none⟩) d.length d.length]) (base.take (i + 1)) ∧ Byts W0 (some ⟨b, o, none⟩) 0 (laid (base.drop (i + 1))) ∧ 0 ≤ 0 ∧ 0 ≤ maxLen ∧ (some (⟨b, o, none⟩ : Addr) = none → 0 = 0) ∧ Below W0.heap.size W0 w9) := by
          obtain ⟨hby, hd, hlen⟩ := HBy2.out
          have hi := (List.getElem?_eq_some_iff.1 hd).1
          have eT : base.take (i + 1) = base.take i ++ [d] := by rw [List.take_add_one, hd]; rfl
          have hbd : Byts W0 (some ⟨b, o + 2, none⟩) d.length d := by
            have := hby.shift 2 d.length (by omega)
            have e : ((layB d ++ laid (base.drop (i + 1))).drop 2).take d.length = d := by simp [layB]
            rwa [e] at this
          have hl0 : laid (base.drop (i + 1)) = [] := List.eq_nil_of_length_eq_zero (by omega)
          refine ⟨hi, r9, by rw [eT]; exact HK.out.2.2.1.snoc hbd (fun e => (by cases e)), by rw [hl0]; exact ⟨rfl, fun j hj => by omega⟩, Nat.le_refl _, Nat.zero_le _, fun _ => rfl, vrow_below HX.out.1 HX.out.2 o9⟩
        go_wp2_with (at_builtin; refine wpList_append_run rfl (.tmp 31) (.tmp 36) 22 _ rfl e9 ?_)
        go_roundw
        case rel =>
          have hz : 2 + d.length - (2 + d.length) = 0 := by omega
          refine ⟨i + 1, a2, n2, k2, vi ++ [.slice (some ⟨b, o + 2, none⟩) d.length d.length], _, _, _, rfl, rfl, ?_⟩
          rw [hz]
          exact HF.out
        case measure => simp [sliceLen]; omega
      · have hce' : ¬ (c : Int) = 2 + d.length := by omega
        have HF : Hid (i + 1 ≤ base.length ∧ VRow w9 W0.heap.size 28 (.slice a2 n2 k2) (vi ++ [.slice (some ⟨b, o + 2, none⟩) d.length (c - 2)]) ∧ Pcs W0 (vi ++ [.slice (some ⟨b, o + 2, none⟩) d.length (c - 2)]) (base.take (i + 1)) ∧ Byts W0 (some ⟨b, o + (2 + d.length), none⟩) (m - (2 + d.length)) (laid (base.drop (i + 1))) ∧ m - (2 + d.length) ≤ c - (2 + d.length) ∧ c - (2 + d.length) ≤ maxLen ∧ (some (⟨b, o + (2 + d.length), none⟩ : Addr) = none → c - (2 + d.length) = 0) ∧ Below W0.heap.size W0 w9) := by
          obtain ⟨hby, hd, hlen⟩ := HBy2.out
          have hi := (List.getElem?_eq_some_iff.1 hd).1
          have eT : base.take (i + 1) = base.take i ++ [d] := by rw [List.take_add_one, hd]; rfl
          have hbd : Byts W0 (some ⟨b, o + 2, none⟩) d.length d := by
            have := hby.shift 2 d.length (by omega)
            have e : ((layB d ++ laid (base.drop (i + 1))).drop 2).take d.length = d := by simp [layB]
            rwa [e] at this
          refine ⟨hi, r9, by rw [eT]; exact HK.out.2.2.1.snoc hbd (fun e => (by cases e)), ?_, by omega, by omega, fun e => (by cases e), vrow_below HX.out.1 HX.out.2 o9⟩
          have := hby.shift (2 + d.length) (m - (2 + d.length)) (by omega)
          have e : ((layB d ++ laid (base.drop (i + 1))).drop (2 + d.length)).take (m - (2 + d.length)) = laid (base.drop (i + 1)) := by
            rw [List.drop_append_of_le_length (by rw [layB_len]; omega), List.drop_of_length_le (by rw [layB_len]; omega), List.nil_append, List.take_of_length_le (by omega)]
          rwa [e] at this
        go_wp2_with (at_builtin; refine wpList_append_run rfl (.tmp 31) (.tmp 36) 22 _ rfl e9 ?_)
        go_roundw
        case rel => exact ⟨i + 1, a2, n2, k2, _, _, _, _, rfl, rfl, HF.out⟩
        case measure => simp [sliceLen]; omega
end Go.Proofs.YtfkcnnjkflomkaaDoor

/-
  WalCommits: what a crash leaves of a log, and what Open finds there.
-/
namespace Go.Proofs.YtfkcnnjkflomkaaDoor
open Go.RowKit Go.BigFrame

/-- A log's disk, as it may stand when a crash comes: its generation with p records synced; or (not one) the next one begun. -/
def CmZ (g : Nat) (base rs : List (List Int)) (p : Nat) (X Y : List Int) (sx sy : Nat) (one : Bool) : Prop :=
  X = genB g (laid base) rs ∧ p ≤ rs.length ∧ ((Y = [] ∧ sy = 0 ∧ sx = 30 + lays base + sizes (rs.take p)) ∨ (one = false ∧ Y = genB (g + 1) (laid (base ++ rs)) [] ∧ sx = X.length ∧ (sy = 0 ∨ sy = Y.length)))
/-- And as it stands behind the crash; al, no: all or nothing of what was not synced was kept. -/
def CmY (g : Nat) (base rs : List (List Int)) (p : Nat) (X Y : List Int) (one : Bool) (al no : Prop) : Prop :=
  (∃ k z, X = cutG g (laid base) rs k z ∧ Y = [] ∧ p ≤ rs.length ∧ sizes (rs.take p) ≤ k ∧ k + z ≤ sizes rs ∧ (al → k = sizes rs) ∧ (no → k = sizes (rs.take p))) ∨
  (one = false ∧ X = genB g (laid base) rs ∧ ∃ k z, Y = torn (genB (g + 1) (laid (base ++ rs)) []) 0 k z ∧ k + z ≤ 30 + lays (base ++ rs))
/-- What is asked of the records. -/
structure CmG (g : Nat) (base rs : List (List Int)) : Prop where
  g1 : 1 ≤ g
  g2 : g < 4611686018427387904
  ln : ∀ d ∈ base ++ rs, 1 ≤ d.length ∧ d.length ≤ 20000 ∧ Rng d
  ly : lays (base ++ rs) ≤ 1048576
theorem CmG.sn {g : Nat} {base rs : List (List Int)} (h : CmG g base rs) : (laid base).length ≤ 2097152 ∧ (laid (base ++ rs)).length ≤ 2097152 := by
  have h1 := h.ly
  have h2 := lays_app base rs
  rw [laid_len, laid_len]
  omega
theorem CmG.szs {g : Nat} {base rs : List (List Int)} (h : CmG g base rs) : sizes rs ≤ 5242880 ∧ rs.length ≤ 1048576 ∧ lays base ≤ 1048576 := by
  have h1 := h.ly
  have h2 := lays_app base rs
  have h3 := sizes_lays rs (fun d hd => (h.ln d (List.mem_append_right _ hd)).1)
  have h4 := len_lays rs
  omega
theorem CmG.recs {g : Nat} {base rs : List (List Int)} (h : CmG g base rs) : (∀ d ∈ rs, 1 ≤ d.length ∧ d.length ≤ 20000) ∧ Rng (laid base) ∧ Rng (laid (base ++ rs)) ∧ ∀ d ∈ rs, Rng d := by
  refine ⟨fun d hd => ?_, rng_laid (fun d hd => (h.ln d (List.mem_append_left _ hd)).2.2) (fun d hd => (h.ln d (List.mem_append_left _ hd)).2.1), rng_laid (fun d hd => (h.ln d hd).2.2) (fun d hd => (h.ln d hd).2.1), fun d hd => (h.ln d (List.mem_append_right _ hd)).2.2⟩
  have := h.ln d (List.mem_append_right _ hd)
  exact ⟨this.1, this.2.1⟩
theorem rng_cutG {g : Nat} {sn : List Int} {rs : List (List Int)} {k z : Nat} (h1 : g ≤ 4611686018427387904) (h : Rng sn) (hr : ∀ r ∈ rs, Rng r) : Rng (cutG g sn rs k z) := by
  unfold cutG
  refine rng_app (hdR g (by omega) (by omega)) (rng_app (rng_rec h) (rng_app ?_ ?_))
  · intro q hq
    have := List.mem_of_mem_take hq
    unfold recsB at this
    obtain ⟨l, hl, hql⟩ := List.mem_flatten.1 this
    obtain ⟨r, hr', rfl⟩ := List.mem_map.1 hl
    exact rng_rec (hr r hr') q hql
  · intro q hq
    have := List.eq_of_mem_replicate hq
    omega
theorem two_mod (g : Nat) : g % 2 = 0 ∨ g % 2 = 1 := by omega
/-- The crash. -/
theorem cm_crash {g p : Nat} {base rs : List (List Int)} {X Y : List Int} {sx sy : Nat} {dd one : Bool} {fu na ns nc : Int} (hG : CmG g base rs) (hZ : CmZ g base rs p X Y sx sy one) (tk0 tz0 tk1 tz1 : Int) :
    ∃ X' Y', crS (sgT (g % 2) X Y sx sy dd fu na ns nc) tk0 tz0 tk1 tz1 = sgT (g % 2) X' Y' X'.length Y'.length false (-1) na ns nc ∧ CmY g base rs p X' Y' one (16777216 ≤ tk0 ∧ 16777216 ≤ tk1) (tk0 ≤ 0 ∧ tk1 ≤ 0) := by
  obtain ⟨rfl, hp, hY⟩ := hZ
  have hs := hG.szs
  have hsn := hG.sn
  have hll := laid_len base
  have hl2 := laid_len (base ++ rs)
  have l0 := genB_len g (laid base) rs
  have l1 := genB_len (g + 1) (laid (base ++ rs)) []
  have ls : sizes (rs.take p) ≤ sizes rs := by have := sizes_take_le rs hp; rwa [List.take_length] at this
  have z0 : sizes ([] : List (List Int)) = 0 := rfl
  rcases hY with ⟨rfl, rfl, rfl⟩ | ⟨h1f, rfl, rfl, hsy⟩
  · obtain ⟨k, z, k', z', h1, h2, e, hno, hal⟩ := tCrash (a := g % 2) (A := genB g (laid base) rs) (B := []) (sa := 30 + lays base + sizes (rs.take p)) (sb := 0) (dd := dd) (fu := fu) (na := na) (ns := ns) (nc := nc) (two_mod g) (by omega) (Nat.le_refl _) (by omega) (by simp) tk0 tz0 tk1 tz1
    have hk' : k' = 0 ∧ z' = 0 := by simp at h2; omega
    obtain ⟨rfl, rfl⟩ := hk'
    have et : torn ([] : List Int) 0 0 0 = [] := rfl
    refine ⟨_, _, e, Or.inl ⟨sizes (rs.take p) + k, z, ?_, et, hp, by omega, by omega, fun h => ?_, fun h => ?_⟩⟩
    · rw [← hll]
      exact torn_gen
    · have := (hal h.1 h.2).1
      omega
    · have := (hno h.1 h.2).1
      omega
  · obtain ⟨k, z, k', z', h1, h2, e, _, _⟩ := tCrash (a := g % 2) (A := genB g (laid base) rs) (B := genB (g + 1) (laid (base ++ rs)) []) (sa := (genB g (laid base) rs).length) (sb := sy) (dd := dd) (fu := fu) (na := na) (ns := ns) (nc := nc) (two_mod g) (Nat.le_refl _) (by omega) (by omega) (by omega) tk0 tz0 tk1 tz1
    have hk : k = 0 ∧ z = 0 := by omega
    obtain ⟨rfl, rfl⟩ := hk
    have et : torn (genB g (laid base) rs) (genB g (laid base) rs).length 0 0 = genB g (laid base) rs := torn_all _
    refine ⟨_, _, e, Or.inr ⟨h1f, et, ?_⟩⟩
    rcases hsy with rfl | rfl
    · exact ⟨k', z', rfl, by omega⟩
    · have hk' : k' = 0 ∧ z' = 0 := by omega
      obtain ⟨rfl, rfl⟩ := hk'
      refine ⟨(genB (g + 1) (laid (base ++ rs)) []).length, 0, ?_, by omega⟩
      unfold torn
      simp
/-- What Open answers behind a crash. -/
def CmO (x : World) (B K : Nat) (v0 v1 : Value) (g : Nat) (base rs : List (List Int)) (p : Nat) (one : Bool) (al no : Prop) (e : Ending) (w' : World) : Prop :=
  ∃ (g' : Nat) (base' rs' : List (List Int)) (M : Nat) (u0 u1 : Value) (L : Nat) (a : Option Addr) (n k : Nat) (v2 : Value) (us : List Value) (tn na ns nc : Int), DStep x w' K v0 v1 u0 u1 ∧ e = .returned (.tuple #[.pointer (some ⟨L, 0, none⟩), .agg #[.int .u64 g', .slice a n k, v2, .int .i64 tn], .nilIface]) ∧
    Lg w' B K L u0 u1 (sgT (g' % 2) (genB g' (laid base') rs') [] (30 + lays base' + sizes rs') 0 false (-1) na ns nc) false g' ((g' : Int) % 2) rs'.length 0 ((30 + lays base' + sizes rs' : Nat) : Int) ∧ Row w' x.heap.size (.slice a n k) (laid base') ∧ VRow w' x.heap.size 28 v2 us ∧ Pcs w' us rs' ∧ x.heap.size ≤ L ∧
    base' ++ rs' = (base ++ rs).take M ∧ base.length + p ≤ M ∧ M ≤ base.length + rs.length ∧ g ≤ g' ∧ g' ≤ g + 1 ∧ (al → M = base.length + rs.length) ∧ (one = true → no → M = base.length + p)
section
variable {x : World} {B K : Nat} {v0 v1 : Value} {g p : Nat} {base rs : List (List Int)} {X Y : List Int} {one : Bool} {al no : Prop} {fu na ns nc : Int}
theorem cm_open (h : DskS x B K v0 v1 (sgT (g % 2) X Y X.length Y.length false (-1) na ns nc)) (hB : B ≤ x.heap.size) (hH : Halves x) (hG : CmG g base rs) (hp : p ≤ rs.length) (hY : CmY g base rs p X Y one al no) :
    Calls Tryd.prog 14 #[.pointer (some ⟨K, 0, none⟩)] x (CmO x B K v0 v1 g base rs p one al no) := by
  have hs := hG.szs
  have hsn := hG.sn
  have hg1 := hG.g1
  have hg2 := hG.g2
  obtain ⟨hrl, hrb, hrn, hrr⟩ := hG.recs
  have hll := laid_len base
  have hl2 := laid_len (base ++ rs)
  have ha := two_mod g
  have hc : ((g % 2 : Nat) : Int) = (g : Int) % 2 := by omega
  have hco : 1 - ((g % 2 : Nat) : Int) = ((g + 1 : Nat) : Int) % 2 := by omega
  have l0 := genB_len g (laid base) rs
  have l1 := genB_len (g + 1) (laid (base ++ rs)) []
  have z0 : sizes ([] : List (List Int)) = 0 := rfl
  have hfull : (base ++ rs).take (base.length + rs.length) = base ++ rs := List.take_of_length_le (by simp)
  rcases hY with ⟨k, z, rfl, rfl, _, hk, hz, hal, hno⟩ | ⟨h1f, rfl, k, z, rfl, hkz⟩
  · obtain ⟨m, hm0, hm1, hps, hmk, hmp, hmf⟩ := cut_found (g := g) (sn := laid base) (z := z) hg1 (by omega) hsn.1 hrl hp hk hz
    have lc := cutG_len (g := g) (sn := laid base) (rs := rs) (k := k) (z := z) (by omega)
    have lt : sizes (rs.take m) ≤ sizes rs := by have := sizes_take_le rs hm1; rwa [List.take_length] at this
    have hwh : 30 + (laid base).length + sizes (rs.take m) ≤ (cutG g (laid base) rs k z).length := by omega
    have key := openT (g := g) (sn := laid base) (rs := rs.take m) h hB ha (Nat.le_refl _) (Nat.le_refl _) (by omega) (by simp) (rng_cutG (by omega) hrb hrr) (fun q hq => by cases hq) hH (by rw [hc]; exact hps) rfl hg1 (fun d hd => (hrl d (List.mem_of_mem_take hd)).2) hwh (by rw [List.length_take]; omega)
    obtain ⟨nc', hrun⟩ := mend_dry (a := g % 2) (g := g) (X := cutG g (laid base) rs k z) (Y := []) (sy := 0) (wh := 30 + (laid base).length + sizes (rs.take m)) (na := na) (ns := ns) (nc := nc) ha hc.symm (Nat.zero_le _) hwh
    refine key.mono ?_
    rintro e w' ⟨u0, u1, hst, hr⟩
    rw [show ([] : List Int).length = 0 from rfl] at hr hrun
    rw [hrun] at hr
    rcases hr with ⟨_, L, a, n, k', v2, us, he, hlg, hrow, hvr, hpc, hL⟩ | ⟨hx, _⟩
    · rw [cutG_take hmk (by omega), hll] at hlg
      refine ⟨g, base, rs.take m, base.length + m, u0, u1, L, a, n, k', v2, us, _, na, ns, nc', hst, he, hlg, hrow, hvr, hpc, hL, ?_, by omega, by omega, Nat.le_refl _, by omega, fun h => ?_, fun _ h => ?_⟩
      · rw [List.take_length_add_append]
      · rw [hmf (hal h)]
      · rw [hmp (hno h)]
    · exact absurd rfl hx
  · have r1 : Rng (genB (g + 1) (laid (base ++ rs)) []) := rng_gen (by omega) hrn (fun d hd => by cases hd)
    have lY : (torn (genB (g + 1) (laid (base ++ rs)) []) 0 k z).length = k + z := by
      unfold torn
      rw [List.length_append, List.length_take, List.length_replicate]
      omega
    have pX : psS (genB g (laid base) rs) ((g % 2 : Nat) : Int) = some (g, laid base, rs) := by
      have := ps_recs (g := g) (sn := laid base) (R := []) (rs := rs) (ar := (g : Int) % 2) hg1 (by omega) hsn.1 rfl hrl rc_nil
      rw [List.append_nil] at this
      rw [hc]
      exact this
    by_cases hk : k < 30 + lays (base ++ rs)
    · have pY : psS (torn (genB (g + 1) (laid (base ++ rs)) []) 0 k z) (1 - ((g % 2 : Nat) : Int)) = none := by
        unfold torn
        rw [genB_nil, Nat.zero_add]
        exact ps_torn (g := g + 1) (by omega) (by omega) hsn.2 (by omega)
      have key := openT (g := g) (sn := laid base) (rs := rs) h hB ha (Nat.le_refl _) (Nat.le_refl _) (by omega) (by omega) (rng_gen (by omega) hrb hrr) (rng_torn3 r1) hH pX pY hg1 (fun d hd => (hrl d hd).2) (by omega) (by omega)
      obtain ⟨nc', hrun⟩ := mend_dry (a := g % 2) (g := g) (X := genB g (laid base) rs) (Y := torn (genB (g + 1) (laid (base ++ rs)) []) 0 k z) (sy := (torn (genB (g + 1) (laid (base ++ rs)) []) 0 k z).length) (wh := 30 + (laid base).length + sizes rs) (na := na) (ns := ns) (nc := nc) ha hc.symm (Nat.le_refl _) (by omega)
      refine key.mono ?_
      rintro e w' ⟨u0, u1, hst, hr⟩
      rw [hrun] at hr
      rcases hr with ⟨_, L, a, n, k', v2, us, he, hlg, hrow, hvr, hpc, hL⟩ | ⟨hx, _⟩
      · rw [List.take_of_length_le (by omega), hll] at hlg
        exact ⟨g, base, rs, base.length + rs.length, u0, u1, L, a, n, k', v2, us, _, na, ns, nc', hst, he, hlg, hrow, hvr, hpc, hL, hfull.symm, by omega, Nat.le_refl _, Nat.le_refl _, by omega, fun _ => rfl, fun h => by rw [h1f] at h; cases h⟩
      · exact absurd rfl hx
    · have hke : k = 30 + lays (base ++ rs) := by omega
      have hz0 : z = 0 := by omega
      subst hz0
      have eY : torn (genB (g + 1) (laid (base ++ rs)) []) 0 k 0 = genB (g + 1) (laid (base ++ rs)) [] := by
        unfold torn
        rw [List.take_of_length_le (by omega)]
        simp
      rw [eY] at h lY
      have pY : psS (genB (g + 1) (laid (base ++ rs)) []) (1 - ((g % 2 : Nat) : Int)) = some (g + 1, laid (base ++ rs), []) := by
        rw [genB_nil, hco]
        exact ps_gen (by omega) (by omega) hsn.2 rfl
      have key := openT_new (g := g) (sn := laid base) (rs := rs) h hB ha (Nat.le_refl _) (Nat.le_refl _) (by omega) (by omega) (rng_gen (by omega) hrb hrr) r1 hH pX pY hg1 hg2 (fun d hd => by cases hd) (by omega) (by simp)
      obtain ⟨nc', hrun⟩ := mend_dry (a := 1 - g % 2) (g := g + 1) (X := genB (g + 1) (laid (base ++ rs)) []) (Y := genB g (laid base) rs) (sy := (genB g (laid base) rs).length) (wh := 30 + (laid (base ++ rs)).length + sizes []) (na := na) (ns := ns) (nc := nc) (by omega) (by omega) (Nat.le_refl _) (by omega)
      rw [← sgT_swap ha] at hrun
      refine key.mono ?_
      rintro e w' ⟨u0, u1, hst, hr⟩
      rw [hrun] at hr
      rcases hr with ⟨_, L, a, n, k', v2, us, he, hlg, hrow, hvr, hpc, hL⟩ | ⟨hx, _⟩
      · rw [List.take_of_length_le (by omega), hl2, show 1 - g % 2 = (g + 1) % 2 by omega] at hlg
        exact ⟨g + 1, base ++ rs, [], base.length + rs.length, u0, u1, L, a, n, k', v2, us, _, na, ns, nc', hst, he, hlg, hrow, hvr, hpc, hL, by rw [List.append_nil]; exact hfull.symm, by omega, Nat.le_refl _, by omega, Nat.le_refl _, fun _ => rfl, fun h => by rw [h1f] at h; cases h⟩
      · exact absurd rfl hx
/-- What Open answers while the log is there. -/
def CmR (x : World) (B K : Nat) (v0 v1 : Value) (g : Nat) (base rs : List (List Int)) (s : Nat) (e : Ending) (w' : World) : Prop :=
  ∃ (u0 u1 : Value) (fu na ns nc : Int), DStep x w' K v0 v1 u0 u1 ∧ ((∃ (L : Nat) (a : Option Addr) (n k : Nat) (v2 : Value) (us : List Value) (tn : Int), e = .returned (.tuple #[.pointer (some ⟨L, 0, none⟩), .agg #[.int .u64 g, .slice a n k, v2, .int .i64 tn], .nilIface]) ∧
    Lg w' B K L u0 u1 (sgT (g % 2) (genB g (laid base) rs) [] (30 + lays base + sizes rs) 0 false fu na ns nc) false g ((g : Int) % 2) rs.length 0 ((30 + lays base + sizes rs : Nat) : Int) ∧ Row w' x.heap.size (.slice a n k) (laid base) ∧ VRow w' x.heap.size 28 v2 us ∧ Pcs w' us rs ∧ x.heap.size ≤ L) ∨
    ∃ ev, e = .returned (.tuple #[.pointer none, .agg #[.int .u64 0, .slice none 0 0, .slice none 0 0, .int .i64 0], ev]) ∧ WDisk x.heap.size 8 ev w' ∧ DskS w' B K u0 u1 (sgT (g % 2) (genB g (laid base) rs) [] s 0 true fu na ns nc))
theorem cm_again {s : Nat} (h : DskS x B K v0 v1 (sgT (g % 2) (genB g (laid base) rs) [] s 0 false fu na ns nc)) (hB : B ≤ x.heap.size) (hH : Halves x) (hG : CmG g base rs) (hsl : s ≤ 30 + lays base + sizes rs) :
    Calls Tryd.prog 14 #[.pointer (some ⟨K, 0, none⟩)] x (CmR x B K v0 v1 g base rs s) := by
  have hs := hG.szs
  have hsn := hG.sn
  have hg1 := hG.g1
  have hg2 := hG.g2
  obtain ⟨hrl, hrb, hrn, hrr⟩ := hG.recs
  have hll := laid_len base
  have ha := two_mod g
  have hc : ((g % 2 : Nat) : Int) = (g : Int) % 2 := by omega
  have l0 := genB_len g (laid base) rs
  have pX : psS (genB g (laid base) rs) ((g % 2 : Nat) : Int) = some (g, laid base, rs) := by
    have := ps_recs (g := g) (sn := laid base) (R := []) (rs := rs) (ar := (g : Int) % 2) hg1 (by omega) hsn.1 rfl hrl rc_nil
    rw [List.append_nil] at this
    rw [hc]
    exact this
  have key := openT (g := g) (sn := laid base) (rs := rs) h hB ha (by omega) (Nat.le_refl _) (by omega) (by simp) (rng_gen (by omega) hrb hrr) (fun q hq => by cases hq) hH pX rfl hg1 (fun d hd => (hrl d hd).2) (by omega) (by omega)
  obtain ⟨fu', ns', hrun⟩ := mend_wet (a := g % 2) (g := g) (X := genB g (laid base) rs) (sx := s) (fu := fu) (na := na) (ns := ns) (nc := nc) ha hc.symm (by omega)
  refine key.mono ?_
  rintro e w' ⟨u0, u1, hst, hr⟩
  rw [← l0] at hr
  rcases hrun with hrun | hrun
  · rw [hrun] at hr
    rcases hr with ⟨_, L, a, n, k', v2, us, he, hlg, hrow, hvr, hpc, hL⟩ | ⟨hx, _⟩
    · rw [l0, hll] at hlg
      exact ⟨u0, u1, fu', na, ns', nc, hst, Or.inl ⟨L, a, n, k', v2, us, _, he, hlg, hrow, hvr, hpc, hL⟩⟩
    · exact absurd rfl hx
  · rw [hrun] at hr
    rcases hr with ⟨hx, _⟩ | ⟨_, ev, he, hW, hD⟩
    · exact absurd hx (show ¬ (8 : Int) = 0 by decide)
    · exact ⟨u0, u1, fu', na, ns', nc, hst, Or.inr ⟨ev, he, hW, hD⟩⟩
end
end Go.Proofs.YtfkcnnjkflomkaaDoor

/-
  WalCommits: the law's run in memory; its calls.
-/
namespace Go.Proofs.YtfkcnnjkflomkaaDoor
open Go.RowKit Go.BigFrame

/-- The run: its four cells, the list of all records (ql), apart from the disk's and the log's blocks (P); blocks that stay as they are in wt (T). -/
structure CmM (w : World) (T : Nat → Prop) (wt : World) (r K : Nat) (lv v : Value) (vs : List Value) (ql : List (List Int)) (sf : Int) (P : Nat → Prop) (wx : World) : Prop where
  bl : Below w.heap.size w wx
  r0 : wx.cell? ⟨r, 0, none⟩ = some (.pointer (some ⟨K, 0, none⟩))
  r1 : wx.cell? ⟨r, 1, none⟩ = some lv
  r2 : wx.cell? ⟨r, 2, none⟩ = some v
  r3 : wx.cell? ⟨r, 3, none⟩ = some (.int .i64 sf)
  rf : ∀ q, wx.frozen? ⟨r, q, none⟩ = false
  rg : w.heap.size ≤ r
  rp : ¬ P r
  vr : VRow wx w.heap.size 28 v vs
  vp : ∀ q, v.ownBlock = some q → ¬ P q ∧ q ≠ r
  pc : Pcs wx vs ql
  pp : ∀ (j b o n c : Nat), vs[j]? = some (Value.slice (some ⟨b, o, none⟩) n c) → b < wx.heap.size ∧ ¬ P b ∧ b ≠ r ∧ v.ownBlock ≠ some b
  kt : ∀ b, T b → b < wx.heap.size ∧ wx.heap[b]? = wt.heap[b]? ∧ ¬ P b ∧ b ≠ r ∧ v.ownBlock ≠ some b
section
variable {w wx wy wt : World} {T : Nat → Prop} {r K : Nat} {lv v : Value} {vs : List Value} {ql : List (List Int)} {sf : Int} {P Q : Nat → Prop}
theorem CmM.step (h : CmM w T wt r K lv v vs ql sf P wx) (ho : Off P wx wy) (hP : ∀ k, P k → w.heap.size ≤ k) (hQ : ∀ k, k < wx.heap.size → Q k → P k) : CmM w T wt r K lv v vs ql sf Q wy := by
  have hrl : r < wx.heap.size := cell_lt h.r0
  refine ⟨h.bl.trans (ho.below h.bl.size hP), off_cell ho h.r0 h.rp, off_cell ho h.r1 h.rp, off_cell ho h.r2 h.rp, off_cell ho h.r3 h.rp, fun q => (ho.frozen (p := ⟨r, q, none⟩) hrl h.rp).trans (h.rf q), h.rg, fun g => h.rp (hQ r hrl g), h.vr.off ho (fun q hq => (h.vp q hq).1), fun q hq => ⟨fun g => (h.vp q hq).1 (hQ q (h.vr.lt hq).2 g), (h.vp q hq).2⟩, ⟨h.pc.1, fun j u d hu hd => ?_⟩, fun j b o n c hu => ?_, fun b hb => ?_⟩
  · obtain ⟨a, c, rfl, hb, hn⟩ := h.pc.2 j u d hu hd
    exact ⟨a, c, rfl, byts_off hb ho (fun b o _ e => by subst e; exact (h.pp j b o _ c hu).2.1), hn⟩
  · obtain ⟨h1, h2, h3, h4⟩ := h.pp j b o n c hu
    exact ⟨Nat.lt_of_lt_of_le h1 ho.size, fun g => h2 (hQ b h1 g), h3, h4⟩
  · obtain ⟨h1, h2, h3, h4, h5⟩ := h.kt b hb
    exact ⟨Nat.lt_of_lt_of_le h1 ho.size, (ho.block b h1 h3).trans h2, fun g => h3 (hQ b h1 g), h4, h5⟩
theorem CmM.weak (h : CmM w T wt r K lv v vs ql sf P wx) (hQ : ∀ k, k < wx.heap.size → Q k → P k) : CmM w T wt r K lv v vs ql sf Q wx := by
  have hrl : r < wx.heap.size := cell_lt h.r0
  refine ⟨h.bl, h.r0, h.r1, h.r2, h.r3, h.rf, h.rg, fun g => h.rp (hQ r hrl g), h.vr, fun q hq => ⟨fun g => (h.vp q hq).1 (hQ q (h.vr.lt hq).2 g), (h.vp q hq).2⟩, h.pc, fun j b o n c hu => ?_, fun b hb => ?_⟩
  · obtain ⟨h1, h2, h3, h4⟩ := h.pp j b o n c hu
    exact ⟨h1, fun g => h2 (hQ b h1 g), h3, h4⟩
  · obtain ⟨h1, h2, h3, h4, h5⟩ := h.kt b hb
    exact ⟨h1, h2, fun g => h3 (hQ b h1 g), h4, h5⟩
end
/-- The run with its log. -/
def CmI (w : World) (T : Nat → Prop) (wt : World) (r K L g : Nat) (base rs : List (List Int)) (p : Nat) (v : Value) (vs : List Value) (ql : List (List Int)) (sf : Int) (wx : World) : Prop :=
  CmG g base rs ∧ p ≤ rs.length ∧ ∃ v0 v1 fu na ns nc, Lg wx w.heap.size K L v0 v1 (sgT (g % 2) (genB g (laid base) rs) [] (30 + lays base + sizes (rs.take p)) 0 false fu na ns nc) false g ((g : Int) % 2) rs.length ((rs.length - p : Nat) : Int) ((30 + lays base + sizes rs : Nat) : Int) ∧ CmM w T wt r K (.pointer (some ⟨L, 0, none⟩)) v vs ql sf (fun k => Foot K v0 v1 k ∨ k = L) wx
/-- The run when a crash comes. -/
def CmX (w : World) (T : Nat → Prop) (wt : World) (r K g : Nat) (base rs : List (List Int)) (p : Nat) (lv v : Value) (vs : List Value) (ql : List (List Int)) (sf : Int) (dd one : Bool) (wx : World) : Prop :=
  CmG g base rs ∧ ∃ v0 v1 X Y sx sy fu na ns nc, DskS wx w.heap.size K v0 v1 (sgT (g % 2) X Y sx sy dd fu na ns nc) ∧ CmZ g base rs p X Y sx sy one ∧ CmM w T wt r K lv v vs ql sf (Foot K v0 v1) wx
section
variable {w wx wt : World} {T : Nat → Prop} {r K L g p : Nat} {base rs : List (List Int)} {v : Value} {vs : List Value} {ql : List (List Int)} {sf : Int}
theorem lg_low {v0 v1 : Value} {σ : Sg} {dd : Bool} {gn ar rc wt by_ : Int} {x : World} {B : Nat} (h : Lg x B K L v0 v1 σ dd gn ar rc wt by_) : ∀ k, (Foot K v0 v1 k ∨ k = L) → B ≤ k := fun k hk => by
  rcases hk with hk | rfl
  · exact (h.d.foot_lt hk).1
  · exact h.ge
theorem foot_next {x x' : World} {v0 v1 u0 u1 : Value} (h : LStep x x' K L v0 v1 u0 u1) : ∀ k, k < x.heap.size → (Foot K u0 u1 k ∨ k = L) → (Foot K v0 v1 k ∨ k = L) := fun k hk hp => hp.imp (h.foot k hk) id
theorem CmI.x (h : CmI w T wt r K L g base rs p v vs ql sf wx) : CmX w T wt r K g base rs p (.pointer (some ⟨L, 0, none⟩)) v vs ql sf false true wx := by
  obtain ⟨hG, hp, v0, v1, fu, na, ns, nc, hl, hm⟩ := h
  exact ⟨hG, v0, v1, _, _, _, _, fu, na, ns, nc, hl.d, ⟨rfl, hp, Or.inl ⟨rfl, rfl, rfl⟩⟩, hm.weak (fun _ _ g => Or.inl g)⟩
/-- What an Append, a Sync, a Compact answers: done, or the disk refused it. -/
def CmE (w : World) (T : Nat → Prop) (wt : World) (r K L g : Nat) (base rs : List (List Int)) (p : Nat) (g' : Nat) (base' rs' : List (List Int)) (p' : Nat) (v : Value) (vs : List Value) (ql : List (List Int)) (sf : Int) (one : Bool) (pre : Array Value) (sy : Bool) (e : Ending) (w' : World) : Prop :=
  (e = .returned (if sy then .tuple (pre.push .nilIface) else .nilIface) ∧ CmI w T wt r K L g' base' rs' p' v vs ql sf w') ∨ (∃ b q, p ≤ q ∧ e = .returned (if sy then .tuple #[.int .i64 0, .iface 98 (.pointer (some ⟨b, 0, none⟩))] else .iface 98 (.pointer (some ⟨b, 0, none⟩))) ∧ CmX w T wt r K g base rs q (.pointer (some ⟨L, 0, none⟩)) v vs ql sf true one w')
theorem cm_append {po : Option Addr} {m c : Nat} {d : List Int} (h : CmI w T wt r K L g base rs p v vs ql sf wx) (hb : Byts w po m d) (hr : Rng d) (hpo : po = none → c = 0) (hH : Halves w) (hm0 : 0 < m) (hm1 : m ≤ 20000) (hs : lays (base ++ rs) + (m + 2) ≤ 1048576) :
    Calls Tryd.prog 10 #[.pointer (some ⟨L, 0, none⟩), .slice po m c] wx (CmE w T wt r K L g base rs p g base (rs ++ [d]) p v vs ql sf true #[] false) := by
  obtain ⟨hG, hp, v0, v1, fu, na, ns, nc, hl, hm⟩ := h
  have hsz := hG.szs
  have hll := laid_len base
  have l0 := genB_len g (laid base) rs
  have hdl : d.length = m := hb.len
  have ha := two_mod g
  have hc : ((g % 2 : Nat) : Int) = (g : Int) % 2 := by omega
  have hG' : CmG g base (rs ++ [d]) := ⟨hG.g1, hG.g2, fun e he => by
    rw [← List.append_assoc] at he
    rcases List.mem_append.1 he with he | he
    · exact hG.ln e he
    · rw [List.mem_singleton] at he
      subst he
      exact ⟨by omega, by omega, hr⟩, by
    rw [← List.append_assoc, lays_app]
    have : lays [d] = d.length + 2 := by simp [lays]
    omega⟩
  refine (lAppend_go hl (hb.below hm.bl) hpo (hH.under' hm.bl) hm0 hm1 (by omega) (by omega) (by omega) (by omega) (by omega) (by omega)).mono ?_
  rintro e w' ⟨u0, u1, hst, hr'⟩
  have hM := hm.step (Q := fun k => Foot K u0 u1 k ∨ k = L) hst.off (lg_low hl) (foot_next hst)
  have e1 : appC (sgT (g % 2) (genB g (laid base) rs) [] (30 + lays base + sizes (rs.take p)) 0 false fu na ns nc) ((g : Int) % 2) (d.length + 13) = if goesOn false fu then 0 else 8 := by rw [← hc]; exact tC_app ha (by omega)
  have e2 : appS (sgT (g % 2) (genB g (laid base) rs) [] (30 + lays base + sizes (rs.take p)) 0 false fu na ns nc) ((g : Int) % 2) (recB d) = if goesOn false fu then sgT (g % 2) (genB g (laid base) rs ++ recB d) [] (30 + lays base + sizes (rs.take p)) 0 false (leftOn fu) (oneMore na) ns nc else sgT (g % 2) (genB g (laid base) rs) [] (30 + lays base + sizes (rs.take p)) 0 true fu na ns nc := by rw [← hc]; exact tS_app ha (by rw [recB_len]; omega)
  rw [e1, e2] at hr'
  by_cases gg : goesOn false fu = true
  · rw [if_pos gg, if_pos gg] at hr'
    rcases hr' with ⟨_, rfl, hl'⟩ | ⟨hx, _⟩
    · refine Or.inl ⟨rfl, hG', by simp; omega, u0, u1, leftOn fu, oneMore na, ns, nc, ?_, hM⟩
      have t1 : (rs ++ [d]).take p = rs.take p := List.take_append_of_le_length hp
      have t2 : (((rs ++ [d]).length - p : Nat) : Int) = ((rs.length - p : Nat) : Int) + 1 := by simp; omega
      have t3 : ((rs ++ [d]).length : Int) = (rs.length : Int) + 1 := by simp
      have t4 : ((30 + lays base + sizes (rs ++ [d]) : Nat) : Int) = ((30 + lays base + sizes rs : Nat) : Int) + ((m : Int) + 13) := by rw [sizes_snoc]; omega
      rw [t1, t2, t3, t4, ← genB_snoc]
      exact hl'
    · exact absurd rfl hx
  · rw [if_neg gg, if_neg gg] at hr'
    rcases hr' with ⟨hx, _⟩ | ⟨_, ⟨b, rfl⟩, hl'⟩
    · exact absurd hx (by decide)
    · exact Or.inr ⟨b, p, Nat.le_refl _, rfl, hG, u0, u1, _, _, _, _, fu, na, ns, nc, hl'.d, ⟨rfl, hp, Or.inl ⟨rfl, rfl, rfl⟩⟩, hM.weak (fun _ _ g => Or.inl g)⟩
theorem cm_sync (h : CmI w T wt r K L g base rs p v vs ql sf wx) :
    Calls Tryd.prog 11 #[.pointer (some ⟨L, 0, none⟩)] wx (CmE w T wt r K L g base rs p g base rs rs.length v vs ql sf true #[.int .i64 ((rs.length - p : Nat) : Int)] true) := by
  obtain ⟨hG, hp, v0, v1, fu, na, ns, nc, hl, hm⟩ := h
  have hll := laid_len base
  have l0 := genB_len g (laid base) rs
  have ha := two_mod g
  have hc : ((g % 2 : Nat) : Int) = (g : Int) % 2 := by omega
  refine (lSync hl).mono ?_
  rintro e w' ⟨u0, u1, hst, hr'⟩
  have hM := hm.step (Q := fun k => Foot K u0 u1 k ∨ k = L) hst.off (lg_low hl) (foot_next hst)
  have e1 : synC (sgT (g % 2) (genB g (laid base) rs) [] (30 + lays base + sizes (rs.take p)) 0 false fu na ns nc) ((g : Int) % 2) = if goesOn false fu then 0 else 8 := by rw [← hc]; exact tC_syn ha
  have e2 : synS (sgT (g % 2) (genB g (laid base) rs) [] (30 + lays base + sizes (rs.take p)) 0 false fu na ns nc) ((g : Int) % 2) = if goesOn false fu then sgT (g % 2) (genB g (laid base) rs) [] (genB g (laid base) rs).length 0 false (leftOn fu) na (oneMore ns) nc else sgT (g % 2) (genB g (laid base) rs) [] (30 + lays base + sizes (rs.take p)) 0 true fu na ns nc := by rw [← hc]; exact tS_syn ha
  rw [e1, e2] at hr'
  by_cases gg : goesOn false fu = true
  · rw [if_pos gg, if_pos gg] at hr'
    rcases hr' with ⟨_, rfl, hl'⟩ | ⟨hx, _⟩
    · refine Or.inl ⟨rfl, hG, Nat.le_refl _, u0, u1, leftOn fu, na, oneMore ns, nc, ?_, hM⟩
      have t1 : ((rs.length - rs.length : Nat) : Int) = 0 := by omega
      rw [List.take_length, t1]
      rw [l0, hll] at hl'
      exact hl'
    · exact absurd rfl hx
  · rw [if_neg gg, if_neg gg] at hr'
    rcases hr' with ⟨hx, _⟩ | ⟨_, ⟨b, rfl⟩, hl'⟩
    · exact absurd hx (by decide)
    · exact Or.inr ⟨b, p, Nat.le_refl _, rfl, hG, u0, u1, _, _, _, _, fu, na, ns, nc, hl'.d, ⟨rfl, hp, Or.inl ⟨rfl, rfl, rfl⟩⟩, hM.weak (fun _ _ g => Or.inl g)⟩
theorem cm_fuse {n : Int} (h : CmI w T wt r K L g base rs p v vs ql sf wx) (hn : n ≤ 9223372036854775807) :
    Calls Tryd.prog 18 #[.pointer (some ⟨K, 0, none⟩), .int .i64 n] wx fun e w' => e = .returned (.tuple #[]) ∧ CmI w T wt r K L g base rs p v vs ql sf w' := by
  obtain ⟨hG, hp, v0, v1, fu, na, ns, nc, hl, hm⟩ := h
  refine (dFuse hl.d n hn).mono ?_
  rintro e w' ⟨rfl, hd, hst⟩
  rw [sgT_fuse (two_mod g)] at hd
  have ho : Off (fun k => Foot K v0 v1 k ∨ k = L) wx w' := hst.off.mono (fun _ g => Or.inl g)
  have hc : ∀ o, w'.cell? ⟨L, o, none⟩ = wx.cell? ⟨L, o, none⟩ := fun o => hst.off.cell (p := ⟨L, o, none⟩) hl.lt hl.nf
  refine ⟨rfl, hG, hp, v0, v1, max n (-1), na, ns, nc, ⟨hd, (hc 0).trans hl.c0, (hc 1).trans hl.c1, (hc 2).trans hl.c2, (hc 3).trans hl.c3, (hc 4).trans hl.c4, (hc 5).trans hl.c5, (hc 6).trans hl.c6, fun o => (hst.off.frozen (p := ⟨L, o, none⟩) hl.lt hl.nf).trans (hl.fr o), hl.nf, hl.ge⟩, hm.step ho (lg_low hl) (fun _ _ g => g)⟩
/-- The run behind a crash. -/
def CmC (w : World) (T : Nat → Prop) (wt : World) (r K g : Nat) (base rs : List (List Int)) (p : Nat) (lv v : Value) (vs : List Value) (ql : List (List Int)) (sf : Int) (one : Bool) (al no : Prop) (wx : World) : Prop :=
  CmG g base rs ∧ p ≤ rs.length ∧ ∃ v0 v1 X Y na ns nc, DskS wx w.heap.size K v0 v1 (sgT (g % 2) X Y X.length Y.length false (-1) na ns nc) ∧ CmY g base rs p X Y one al no ∧ CmM w T wt r K lv v vs ql sf (Foot K v0 v1) wx
theorem cm_down {lv : Value} {dd one : Bool} (h : CmX w T wt r K g base rs p lv v vs ql sf dd one wx) (tk0 tz0 tk1 tz1 : Int) :
    Calls Tryd.prog 16 #[.pointer (some ⟨K, 0, none⟩), .agg #[.int .i64 tk0, .int .i64 tz0, .int .i64 tk1, .int .i64 tz1]] wx fun e w' => e = .returned (.tuple #[]) ∧ CmC w T wt r K g base rs p lv v vs ql sf one (16777216 ≤ tk0 ∧ 16777216 ≤ tk1) (tk0 ≤ 0 ∧ tk1 ≤ 0) w' := by
  obtain ⟨hG, v0, v1, X, Y, sx, sy, fu, na, ns, nc, hd, hZ, hm⟩ := h
  have hs := hG.szs
  have hsn := hG.sn
  have hll := laid_len base
  have hl2 := laid_len (base ++ rs)
  have l0 := genB_len g (laid base) rs
  have l1 := genB_len (g + 1) (laid (base ++ rs)) []
  have z0 : sizes ([] : List (List Int)) = 0 := rfl
  have hpl : p ≤ rs.length := hZ.2.1
  have ls : sizes (rs.take p) ≤ sizes rs := by have := sizes_take_le rs hpl; rwa [List.take_length] at this
  obtain ⟨X', Y', e1, hY⟩ := cm_crash (dd := dd) (fu := fu) (na := na) (ns := ns) (nc := nc) hG hZ tk0 tz0 tk1 tz1
  have hb : sx ≤ X.length ∧ sy ≤ Y.length ∧ X.length ≤ 16777216 ∧ Y.length ≤ 16777216 := by
    obtain ⟨rfl, _, hz⟩ := hZ
    rcases hz with ⟨rfl, rfl, rfl⟩ | ⟨_, rfl, rfl, hsy⟩
    · simp; omega
    · refine ⟨Nat.le_refl _, ?_, by omega, by omega⟩
      rcases hsy with rfl | rfl
      · omega
      · exact Nat.le_refl _
  have ok : (sgT (g % 2) X Y sx sy dd fu na ns nc).Ok := by
    rcases two_mod g with e | e <;> rw [e]
    · exact ⟨hb.1, hb.2.1, hb.2.2.1, hb.2.2.2⟩
    · exact ⟨hb.2.1, hb.1, hb.2.2.2, hb.2.2.1⟩
  refine (dCrash hd ok tk0 tz0 tk1 tz1).mono ?_
  rintro e w' ⟨rfl, u0, u1, hd', hst⟩
  rw [e1] at hd'
  exact ⟨rfl, hG, hpl, u0, u1, X', Y', na, ns, nc, hd', hY, hm.step hst.off (fun k g => (hd.foot_lt g).1) hst.foot⟩
end
end Go.Proofs.YtfkcnnjkflomkaaDoor

/-
  WalCommits: Compact and Open of the run.
-/
namespace Go.Proofs.YtfkcnnjkflomkaaDoor
open Go.RowKit Go.BigFrame

section
variable {w wx wt : World} {T : Nat → Prop} {r K L g p : Nat} {base rs : List (List Int)} {v : Value} {vs : List Value} {ql : List (List Int)} {sf : Int}
theorem fol_gen (g : Nat) (bs : List Int) : folOps ((g : Int) + 1) ((g : Int) % 2) bs = [.cut (1 - ((g % 2 : Nat) : Int)) 0, .app (1 - ((g % 2 : Nat) : Int)) (genB (g + 1) bs []), .syn (1 - ((g % 2 : Nat) : Int)), .cut ((g % 2 : Nat) : Int) 0] := by
  have e1 : ((g : Int) + 1) % 2 = 1 - ((g % 2 : Nat) : Int) := by omega
  have e2 : (g : Int) % 2 = ((g % 2 : Nat) : Int) := by omega
  have e3 : ((g + 1 : Nat) : Int) = (g : Int) + 1 := by omega
  unfold folOps
  rw [genB_nil, e1, e3, ← e2]
/-- The writes of a Compact. -/
theorem fol_run {fu na ns nc : Int} (hG : CmG g base rs) (hp : p ≤ rs.length) :
    ∃ σ c, (if p < rs.length then runS (sgT (g % 2) (genB g (laid base) rs) [] (30 + lays base + sizes (rs.take p)) 0 false fu na ns nc) (.syn ((g : Int) % 2) :: folOps ((g : Int) + 1) ((g : Int) % 2) (laid (base ++ rs))) else runS (sgT (g % 2) (genB g (laid base) rs) [] (30 + lays base + sizes (rs.take p)) 0 false fu na ns nc) (folOps ((g : Int) + 1) ((g : Int) % 2) (laid (base ++ rs)))) = (σ, c) ∧
      ((c = 0 ∧ ∃ fu' na' ns' nc', σ = sgT ((g + 1) % 2) (genB (g + 1) (laid (base ++ rs)) []) [] (30 + lays (base ++ rs)) 0 false fu' na' ns' nc') ∨ (c = 8 ∧ ∃ q X Y sx sy fu' na' ns' nc', p ≤ q ∧ σ = sgT (g % 2) X Y sx sy true fu' na' ns' nc' ∧ CmZ g base rs q X Y sx sy false)) := by
  have ha := two_mod g
  have hc : ((g % 2 : Nat) : Int) = (g : Int) % 2 := by omega
  have hs := hG.szs
  have hsn := hG.sn
  have hll := laid_len base
  have hl2 := laid_len (base ++ rs)
  have l0 := genB_len g (laid base) rs
  have l1 := genB_len (g + 1) (laid (base ++ rs)) []
  have z0 : sizes ([] : List (List Int)) = 0 := rfl
  have h1 : 1 - g % 2 = (g + 1) % 2 := by omega
  have h2 : (genB (g + 1) (laid (base ++ rs)) []).length = 30 + lays (base ++ rs) := by omega
  have four : ∀ fu na ns nc, ∃ σ c, runS (sgT (g % 2) (genB g (laid base) rs) [] (genB g (laid base) rs).length 0 false fu na ns nc) (folOps ((g : Int) + 1) ((g : Int) % 2) (laid (base ++ rs))) = (σ, c) ∧ ((c = 0 ∧ ∃ fu' na' ns' nc', σ = sgT ((g + 1) % 2) (genB (g + 1) (laid (base ++ rs)) []) [] (30 + lays (base ++ rs)) 0 false fu' na' ns' nc') ∨ (c = 8 ∧ ∃ q X Y sx sy fu' na' ns' nc', p ≤ q ∧ σ = sgT (g % 2) X Y sx sy true fu' na' ns' nc' ∧ CmZ g base rs q X Y sx sy false)) := fun fu na ns nc => by
    rw [fol_gen]
    obtain ⟨fu', na', ns', nc', h | ⟨B, sb, h, hB⟩⟩ := tRun_four (a := g % 2) (A := genB g (laid base) rs) (sa := (genB g (laid base) rs).length) (N := genB (g + 1) (laid (base ++ rs)) []) (fu := fu) (na := na) (ns := ns) (nc := nc) ha (by omega)
    · exact ⟨_, _, h, Or.inl ⟨rfl, fu', na', ns', nc', by rw [h1, h2]⟩⟩
    · refine ⟨_, _, h, Or.inr ⟨rfl, rs.length, _, _, _, _, fu', na', ns', nc', hp, rfl, rfl, Nat.le_refl _, ?_⟩⟩
      rcases hB with ⟨rfl, rfl⟩ | ⟨rfl, hb⟩
      · exact Or.inl ⟨rfl, rfl, by rw [List.take_length]; omega⟩
      · exact Or.inr ⟨rfl, rfl, rfl, hb⟩
  by_cases hw : p < rs.length
  · simp only [if_pos hw]
    by_cases gg : goesOn false fu = true
    · have s : opC (sgT (g % 2) (genB g (laid base) rs) [] (30 + lays base + sizes (rs.take p)) 0 false fu na ns nc) (.syn ((g : Int) % 2)) = 0 ∧ opS (sgT (g % 2) (genB g (laid base) rs) [] (30 + lays base + sizes (rs.take p)) 0 false fu na ns nc) (.syn ((g : Int) % 2)) = sgT (g % 2) (genB g (laid base) rs) [] (genB g (laid base) rs).length 0 false (leftOn fu) na (oneMore ns) nc := by
        constructor
        · show synC _ _ = _
          rw [← hc, tC_syn ha, if_pos gg]
        · show synS _ _ = _
          rw [← hc, tS_syn ha, if_pos gg]
      rw [runS, if_pos s.1, s.2]
      exact four _ _ _ _
    · have s : opC (sgT (g % 2) (genB g (laid base) rs) [] (30 + lays base + sizes (rs.take p)) 0 false fu na ns nc) (.syn ((g : Int) % 2)) = 8 ∧ opS (sgT (g % 2) (genB g (laid base) rs) [] (30 + lays base + sizes (rs.take p)) 0 false fu na ns nc) (.syn ((g : Int) % 2)) = sgT (g % 2) (genB g (laid base) rs) [] (30 + lays base + sizes (rs.take p)) 0 true fu na ns nc := by
        constructor
        · show synC _ _ = _
          rw [← hc, tC_syn ha, if_neg gg]
        · show synS _ _ = _
          rw [← hc, tS_syn ha, if_neg gg]
      rw [runS, if_neg (by rw [s.1]; decide), s.2, s.1]
      exact ⟨_, _, rfl, Or.inr ⟨rfl, p, _, _, _, _, fu, na, ns, nc, Nat.le_refl _, rfl, rfl, hp, Or.inl ⟨rfl, rfl, rfl⟩⟩⟩
  · simp only [if_neg hw]
    have hpe : p = rs.length := by omega
    have e : 30 + lays base + sizes (rs.take p) = (genB g (laid base) rs).length := by rw [hpe, List.take_length]; omega
    rw [e]
    exact four _ _ _ _
theorem cm_compact {wx0 : World} {po : Option Addr} {m c : Nat} (h : CmI w T wt r K L g base rs p v vs ql sf wx0) (hw0 : Below wx0.heap.size wx0 wx) (hb : Byts wx po m (laid (base ++ rs))) (hfar : ∀ b o, 0 < m → po = some ⟨b, o, none⟩ → wx0.heap.size ≤ b ∧ b < wx.heap.size) (hpo : po = none → c = 0) (hH : Halves w) (hg : g + 1 < 4611686018427387904) :
    Calls Tryd.prog 13 #[.pointer (some ⟨L, 0, none⟩), .slice po m c] wx (CmE w T wt r K L g base rs p (g + 1) (base ++ rs) [] 0 v vs ql sf false #[] false) := by
  obtain ⟨hG, hp, v0, v1, fu, na, ns, nc, hl0, hm0⟩ := h
  have hl := hl0.below hw0
  have hm := hm0.step (Q := fun k => Foot K v0 v1 k ∨ k = L) (Off.of_below hw0) (lg_low hl0) (fun _ _ g => g)
  have hfr : ∀ b, wx0.heap.size ≤ b → ¬ Foot K v0 v1 b := fun b hb gf => by have := (hl0.d.foot_lt gf).2; omega
  have hsn := hG.sn
  have hlen : (laid (base ++ rs)).length = m := hb.len
  have hl2 := laid_len (base ++ rs)
  have hs0 := hm.bl.size
  have hd := hl.d
  have hhlt : 1 < w.heap.size := cell_lt (hH 0 (by omega))
  have hGh : ¬ Foot K v0 v1 1 := fun g => by have := (hd.foot_lt g).1; omega
  have hG' : CmG (g + 1) (base ++ rs) [] := ⟨by omega, hg, fun d hd => by rw [List.append_nil] at hd; exact hG.ln d hd, by rw [List.append_nil]; exact hG.ly⟩
  obtain ⟨σ, cc, hrun, hres⟩ := fol_run (fu := fu) (na := na) (ns := ns) (nc := nc) (p := p) hG hp
  have fin : ∀ (e : Ending) (w' : World) (u0 u1 : Value), LStep wx w' K L v0 v1 u0 u1 → ((cc = 0 ∧ e = .returned .nilIface ∧ Lg w' w.heap.size K L u0 u1 σ false ((g : Int) + 1) (((g : Int) + 1) % 2) 0 0 (30 + (m : Int))) ∨ (cc ≠ 0 ∧ (∃ b, e = .returned (.iface 98 (.pointer (some ⟨b, 0, none⟩)))) ∧ DskS w' w.heap.size K u0 u1 σ)) → CmE w T wt r K L g base rs p (g + 1) (base ++ rs) [] 0 v vs ql sf false #[] false e w' := by
    intro e w' u0 u1 hst hr
    have hM := hm.step (Q := fun k => Foot K u0 u1 k ∨ k = L) hst.off (lg_low hl) (foot_next hst)
    rcases hres with ⟨hc0, fu', na', ns', nc', rfl⟩ | ⟨hc8, q, X, Y, sx, sy, fu', na', ns', nc', hpq, rfl, hZ⟩
    · rcases hr with ⟨_, rfl, hl'⟩ | ⟨hx, _⟩
      · refine Or.inl ⟨rfl, hG', Nat.le_refl _, u0, u1, fu', na', ns', nc', ?_, hM⟩
        have t1 : ((g + 1 : Nat) : Int) = (g : Int) + 1 := by omega
        have t2 : ((30 + lays (base ++ rs) + sizes ([] : List (List Int)) : Nat) : Int) = 30 + (m : Int) := by
          have z0 : sizes ([] : List (List Int)) = 0 := rfl
          omega
        have t3 : 30 + lays (base ++ rs) + sizes (([] : List (List Int)).take 0) = 30 + lays (base ++ rs) := rfl
        rw [t1, t2, t3]
        exact hl'
      · exact absurd hc0 hx
    · rcases hr with ⟨hx, _⟩ | ⟨_, ⟨b, rfl⟩, hd'⟩
      · omega
      · exact Or.inr ⟨b, q, hpq, rfl, hG, u0, u1, X, Y, sx, sy, fu', na', ns', nc', hd', hZ, hM.weak (fun _ _ g => Or.inl g)⟩
  by_cases hw : p < rs.length
  · simp only [if_pos hw] at hrun
    refine (lCompact hl (by omega) hb (fun b o h0 e => hfr b (hfar b o h0 e).1) (fun b o h0 e => (hfar b o h0 e).2) hpo (by omega) (hH.under' hm.bl) hGh (by omega) (by have := hG.g2; omega)).mono ?_
    rintro e w' ⟨ev, u0, u1, rfl, hst, hr⟩
    rw [hrun] at hr
    refine fin _ w' u0 u1 hst ?_
    rcases hr with ⟨h0, rfl, hl'⟩ | ⟨h0, ⟨b, b', rfl, _⟩, hl'⟩
    · exact Or.inl ⟨h0, rfl, hl'⟩
    · exact Or.inr ⟨h0, ⟨b, rfl⟩, hl'.d⟩
  · simp only [if_neg hw] at hrun
    have hpe : p = rs.length := by omega
    have t0 : ((rs.length - p : Nat) : Int) = 0 := by omega
    rw [t0] at hl
    refine (lCompact0 hl hb (fun b o h0 e => hfr b (hfar b o h0 e).1) hpo (by omega) (hH.under' hm.bl) hGh (by omega) (by have := hG.g2; omega)).mono ?_
    rintro e w' ⟨ev, u0, u1, rfl, hst, hr⟩
    rw [hrun] at hr
    refine fin _ w' u0 u1 hst ?_
    rcases hr with ⟨h0, rfl, hl'⟩ | ⟨h0, ⟨b, b', rfl, _⟩, hl'⟩
    · exact Or.inl ⟨h0, rfl, hl'⟩
    · exact Or.inr ⟨h0, ⟨b, rfl⟩, hl'.d⟩
/-- What Open answers of the run: a log with the first M of the records; or (KOpen alone) the disk refused it. -/
def CmU (w : World) (T : Nat → Prop) (wt : World) (r K : Nat) (N g : Nat) (al0 : List (List Int)) (lo : Nat) (ex : Nat → Prop) (lv v : Value) (vs : List Value) (ql : List (List Int)) (sf : Int) (e : Ending) (w' : World) : Prop :=
  ∃ (g' : Nat) (base' rs' : List (List Int)) (M L : Nat) (a : Option Addr) (n k : Nat) (v2 : Value) (us : List Value) (tn : Int), e = .returned (.tuple #[.pointer (some ⟨L, 0, none⟩), .agg #[.int .u64 g', .slice a n k, v2, .int .i64 tn], .nilIface]) ∧ Row w' N (.slice a n k) (laid base') ∧ VRow w' N 28 v2 us ∧ Pcs w' us rs' ∧ N ≤ L ∧ base' ++ rs' = al0.take M ∧ lo ≤ M ∧ M ≤ al0.length ∧ g ≤ g' ∧ g' ≤ g + 1 ∧ ex M ∧ CmG g' base' rs' ∧
    ∃ u0 u1 fu na ns nc, Lg w' w.heap.size K L u0 u1 (sgT (g' % 2) (genB g' (laid base') rs') [] (30 + lays base' + sizes rs') 0 false fu na ns nc) false g' ((g' : Int) % 2) rs'.length 0 ((30 + lays base' + sizes rs' : Nat) : Int) ∧ CmM w T wt r K lv v vs ql sf (fun k => Foot K u0 u1 k ∨ k = L) w'
theorem m_fresh {u0 u1 lv : Value} {w' : World} {L' N : Nat} (h : CmM w T wt r K lv v vs ql sf (Foot K u0 u1) w') (hr : r < N) (hv : ∀ q, v.ownBlock = some q → q < N) (hp : ∀ (j b o n c : Nat), vs[j]? = some (Value.slice (some ⟨b, o, none⟩) n c) → b < N) (hk : ∀ b, T b → b < N) (hL : N ≤ L') : CmM w T wt r K lv v vs ql sf (fun k => Foot K u0 u1 k ∨ k = L') w' := by
  refine ⟨h.bl, h.r0, h.r1, h.r2, h.r3, h.rf, h.rg, fun g => g.elim h.rp (fun e => by omega), h.vr, fun q hq => ⟨fun g => g.elim (h.vp q hq).1 (fun e => by have := hv q hq; omega), (h.vp q hq).2⟩, h.pc, fun j b o n c hu => ?_, fun b hb => ?_⟩
  · obtain ⟨h1, h2, h3, h4⟩ := h.pp j b o n c hu
    exact ⟨h1, fun g => g.elim h2 (fun e => by have := hp j b o n c hu; omega), h3, h4⟩
  · obtain ⟨h1, h2, h3, h4, h5⟩ := h.kt b hb
    exact ⟨h1, h2, fun g => g.elim h3 (fun e => by have := hk b hb; omega), h4, h5⟩
theorem cm_up {lv : Value} {one : Bool} {al no : Prop} (h : CmC w T wt r K g base rs p lv v vs ql sf one al no wx) (hH : Halves w) (hg : g + 1 < 4611686018427387904) :
    Calls Tryd.prog 14 #[.pointer (some ⟨K, 0, none⟩)] wx (CmU w T wt r K wx.heap.size g (base ++ rs) (base.length + p) (fun M => (al → M = (base ++ rs).length) ∧ (one = true → no → M = base.length + p)) lv v vs ql sf) := by
  obtain ⟨hG, hp, v0, v1, X, Y, na, ns, nc, hd, hY, hm⟩ := h
  refine (cm_open hd hm.bl.size (hH.under' hm.bl) hG hp hY).mono ?_
  rintro e w' ⟨g', base', rs', M, u0, u1, L, a, n, k, v2, us, tn, na', ns', nc', hst, he, hlg, hrow, hvr, hpc, hL, hM1, hM2, hM3, hg1, hg2, hal, hno⟩
  have hM := hm.step (Q := Foot K u0 u1) hst.off (fun k g => (hd.foot_lt g).1) hst.foot
  refine ⟨g', base', rs', M, L, a, n, k, v2, us, tn, he, hrow, hvr, hpc, hL, hM1, hM2, by simp; omega, hg1, hg2, ⟨fun h => by simp; exact hal h, hno⟩, ⟨by have := hG.g1; omega, by omega, fun d hd => ?_, ?_⟩, u0, u1, -1, na', ns', nc', hlg, m_fresh hM (cell_lt hm.r0) (fun q hq => (hm.vr.lt hq).2) (fun j b o n c hu => (hm.pp j b o n c hu).1) (fun b hb => (hm.kt b hb).1) hL⟩
  · rw [hM1] at hd
    exact hG.ln d (List.mem_of_mem_take hd)
  · rw [hM1]
    exact Nat.le_trans (lays_take _ _) hG.ly
/-- Open while the log is there. -/
theorem cm_reup (h : CmI w T wt r K L g base rs p v vs ql sf wx) (hH : Halves w) :
    Calls Tryd.prog 14 #[.pointer (some ⟨K, 0, none⟩)] wx fun e w' => CmU w T wt r K wx.heap.size g (base ++ rs) (base.length + p) (fun M => M = (base ++ rs).length) (.pointer (some ⟨L, 0, none⟩)) v vs ql sf e w' ∨ ∃ b, e = .returned (.tuple #[.pointer none, .agg #[.int .u64 0, .slice none 0 0, .slice none 0 0, .int .i64 0], .iface 98 (.pointer (some ⟨b, 0, none⟩))]) ∧ CmX w T wt r K g base rs p (.pointer (some ⟨L, 0, none⟩)) v vs ql sf true true w' := by
  obtain ⟨hG, hp, v0, v1, fu, na, ns, nc, hl, hm⟩ := h
  have hd := hl.d
  have ls : sizes (rs.take p) ≤ sizes rs := by have := sizes_take_le rs hp; rwa [List.take_length] at this
  refine (cm_again hd hm.bl.size (hH.under' hm.bl) hG (by omega)).mono ?_
  rintro e w' ⟨u0, u1, fu', na', ns', nc', hst, hr⟩
  have hM := (hm.weak (Q := Foot K v0 v1) (fun _ _ g => Or.inl g)).step (Q := Foot K u0 u1) hst.off (fun k g => (hd.foot_lt g).1) hst.foot
  rcases hr with ⟨L', a, n, k, v2, us, tn, he, hlg, hrow, hvr, hpc, hL⟩ | ⟨ev, he, ⟨b, b', rfl, _⟩, hd'⟩
  · exact Or.inl ⟨g, base, rs, (base ++ rs).length, L', a, n, k, v2, us, tn, he, hrow, hvr, hpc, hL, by rw [List.take_length], by simp; omega, Nat.le_refl _, Nat.le_refl _, by omega, rfl, hG, u0, u1, fu', na', ns', nc', hlg, m_fresh hM (cell_lt hm.r0) (fun q hq => (hm.vr.lt hq).2) (fun j b o n c hu => (hm.pp j b o n c hu).1) (fun b hb => (hm.kt b hb).1) hL⟩
  · exact Or.inr ⟨b, he, hG, u0, u1, _, _, _, _, fu', na', ns', nc', hd', ⟨rfl, hp, Or.inl ⟨rfl, rfl, rfl⟩⟩, hM⟩
end
end Go.Proofs.YtfkcnnjkflomkaaDoor
