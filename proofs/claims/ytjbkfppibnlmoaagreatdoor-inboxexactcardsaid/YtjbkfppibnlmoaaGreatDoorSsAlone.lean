import Derived.Test.YtjbkfppibnlmoaaGreatDoorSsAll
/-
  The strong pair: alone.
-/
namespace Go.Proofs.YtjbkfppibnlmoaaGreatDoor
open Go.RowKit

theorem run_append_k2 {P : Program} (w : World) (base : Nat) (t ty e : TypeId) (i : TypeInfo) (z : Value) (size bytes : Nat) (ht : P.underlying t = some (.slice e)) (hi : P.info? e = some i) (hz : i.zero = some z)
    (hsize : i.size = size) (hby : i.bytes = bytes) (hzs : z.cells.size = size)
    (v : Value) (n : Nat) (xs : List Value) (hown : w.ownsRow base e size v n xs)
    (a : Option Addr) (m c : Nat) (news : List Value) (hl : news.length = m * size) (ha : a = none → m = 0) (hnews : ∀ a', a = some a' → ∀ j u, news[j]? = some u → w.cell? (a'.add j) = some u) (h1 : ∀ u ∈ news, u.oneCell' = true) (hm : 0 < m)
    (h63 : n + m ≤ maxLen) (hbytes : ((n + m) + (n + m) / 4 + 192) * bytes ≤ 281474976710656) (hbase : base ≤ w.heap.size) :
    ∃ v' w', (Builtin.append_ #[t, t] ty #[v, .slice a m c]).run P w = .ok v' w' ∧ w'.ownsRow base e size v' (n + m) (xs ++ news) ∧ Off (fun k => v.ownBlock = some k) w w' ∧ ((∃ g cap, v = .slice (some ⟨g, 0, none⟩) n cap ∧ v' = .slice (some ⟨g, 0, none⟩) (n + m) cap) ∨ (v'.ownBlock = some w.heap.size ∧ Below w.heap.size w w')) := by
  subst hsize
  subst hby
  have hsmall : n + m ≤ 9223372036854775807 := by simp only [maxLen] at h63; omega
  have hlen : (xs ++ news).length = (n + m) * i.size := by rw [List.length_append, hown.1, hl, Nat.add_mul]
  obtain ⟨a', rfl⟩ : ∃ a', a = some a' := by
    cases a with
    | none => have := ha rfl; omega
    | some a' => exact ⟨a', rfl⟩
  have hnews' := hnews a' rfl
  have grown : ∀ (old : Nat), old < n + m →
      (w.drew.alloc (.cells (xs.toArray ++ news.toArray ++ Builtin.zeroCells z.cells (grownCap w (n + m) old e - (n + m))) e)).ownsRow base e i.size
        (.slice (some ⟨w.heap.size, 0, none⟩) (n + m) (grownCap w (n + m) old e)) (n + m) (xs ++ news) ∧
      Below w.heap.size w (w.drew.alloc (.cells (xs.toArray ++ news.toArray ++ Builtin.zeroCells z.cells (grownCap w (n + m) old e - (n + m))) e)) := by
    intro old ho
    have hge := grownCap_ge w (n + m) old e
    have hcm : grownCap w (n + m) old e ≤ maxLen := grownCap_le_maxLen w (n + m) old e h63
    refine ⟨⟨hlen, .inr ⟨w.heap.size, _, _, rfl, hbase, heap_alloc_new w.drew _, hge, hcm, ?_, ?_⟩⟩, ⟨rfl, rfl, rfl, by simp, fun k hk => Below.heap_alloc w.drew _ k hk⟩⟩
    · simp only [Array.size_append, List.size_toArray, size_zeroCells, hzs, hown.1, hl, ← Nat.add_mul]
      congr 1
      omega
    · simp only [Array.toList_append, List.append_assoc]
      rw [← List.append_assoc, ← hlen]
      exact List.take_left
  rcases hown.2 with ⟨rfl, rfl⟩ | ⟨g, cap, cur, rfl, hbg, hg, hnc, hcm, hcs, htake⟩
  · have hx : xs = [] := List.eq_nil_of_length_eq_zero (by simpa using hown.1)
    subst hx
    have hr := run_append_nil (P := P) w t ty e i z ht hi hz a' m c news hl hnews' (by omega) (by omega) (by have hb := hbytes; simp only [Nat.zero_add] at hb; exact Nat.le_trans (Nat.mul_le_mul_right _ (by omega)) hb)
    have hgr := grown 0 (by omega)
    simp only [Nat.zero_add, List.nil_append, Array.empty_append] at hgr ⊢
    exact ⟨_, _, hr, hgr.1, Off.of_below hgr.2, Or.inr ⟨rfl, hgr.2⟩⟩
  · by_cases hroom : n + m ≤ cap
    · have hfit : n * i.size + news.length ≤ cur.size := by rw [hl, hcs, ← Nat.add_mul]; exact Nat.mul_le_mul_right _ hroom
      have hr := run_append_room (P := P) w t ty e i ht hi g n cap cur hg a' m c news hl hnews' h1 hroom hfit
      refine ⟨_, _, hr, ⟨hlen, .inr ⟨g, cap, _, rfl, hbg, setRow_heap w g cur _ e _ hg, hroom, hcm, ?_, ?_⟩⟩, Off.of_grown (row := some g) ⟨rfl, rfl, rfl, by simp, fun k _ hk => setRow_other w g k _ (fun e => hk (by simp [e]))⟩, Or.inl ⟨g, cap, rfl, rfl⟩⟩
      · simp only [List.size_toArray, List.length_append, List.length_take, List.length_drop, Array.length_toList]
        omega
      · rw [htake, ← hlen]
        exact List.take_left
    · have holds : ∀ j u, xs[j]? = some u → w.cell? ((⟨g, 0, none⟩ : Addr).add j) = some u := hown.cells (g := g) rfl
      have hr := run_append_grow (P := P) w t ty e i z ht hi hz ⟨g, 0, none⟩ n cap xs hown.1 holds a' m c news hl hnews' (by omega) (by omega) (growslice_fits_wide (by omega) hbytes)
      have hgr := grown cap (by omega)
      exact ⟨_, _, hr, hgr.1, Off.of_below hgr.2, Or.inr ⟨rfl, hgr.2⟩⟩

theorem ERow.rebase {α : Type} {w : World} {B B' k : Nat} {e : TypeId} {enc : α → List Value} {v : Value} {xs : List α} (h : ERow w B e k enc v xs) (hg : ∀ q, v.ownBlock = some q → B' ≤ q) : ERow w B' e k enc v xs := ⟨h.1, h.2.imp id fun ⟨g, cap, cur, e1, hb, rest⟩ => ⟨g, cap, cur, e1, hg g (by rw [e1]; rfl), rest⟩⟩
/-- What an entry of list i at place k is written over with. -/
def wrE (i k : Nat) : Ent := { zE with nu := (i : Int), tk := (k : Int) }
def wrt (i n : Nat) : List Ent := (List.range n).map (wrE i)
theorem wrt_len (i n : Nat) : (wrt i n).length = n := by simp [wrt]
theorem wrt_succ (i n : Nat) : wrt i (n + 1) = wrt i n ++ [wrE i n] := by simp [wrt, List.range_succ]
theorem wrt_get {i n k : Nat} (h : k < n) : (wrt i n)[k]? = some (wrE i k) := by
  rw [wrt, List.getElem?_map, List.getElem?_range h]; rfl
theorem take_set_one {α : Type} {xs : List α} {k : Nat} {x : α} (h : k < xs.length) : (xs.set k x).take (k + 1) = xs.take k ++ [x] := by
  refine List.ext_getElem? fun q => ?_
  rcases Nat.lt_trichotomy q k with g | g | g
  · rw [List.getElem?_take, if_pos (by omega), List.getElem?_set_ne (by omega), List.getElem?_append_left (by rw [List.length_take]; omega), List.getElem?_take, if_pos g]
  · subst g
    rw [List.getElem?_take, if_pos (by omega), List.getElem?_set_self h, List.getElem?_append_right (by rw [List.length_take]; omega), List.length_take, Nat.min_eq_left (by omega), Nat.sub_self]
    rfl
  · rw [List.getElem?_take, if_neg (by omega), List.getElem?_append_right (by rw [List.length_take]; omega), List.getElem?_eq_none (by rw [List.length_take]; simp; omega)]
/-- In the midst of writing over: list i up to place k. -/
def GW (w : World) (B : Nat) (gs : List (Sl × Sl)) (i k : Nat) : Prop := ∀ (j : Nat) (g : Sl × Sl), gs[j]? = some g → g.1.2.2 = g.1.2.1 ∧ ∃ xs, NRow w B (slv g.1) xs ∧ xs.length = g.1.2.1 ∧ (j < i → xs = wrt j g.1.2.1) ∧ (j = i → xs.take k = wrt i k)
section
variable {W w w' wx wy : World} {X K n m : Nat} {bv mk ke rm L v6 v7 : Value} {o : Option (Int × Int)} {A A' : List Ent} {τ τ' : Nat → Nat} {P : Nat → Prop} {gs : List (Sl × Sl)} {B : Nat}
theorem GW.below {i k : Nat} (h : GW w B gs i k) (hb : Below w.heap.size w w') : GW w' B gs i k := fun j g hg => by
  obtain ⟨h0, xs, h1, h2⟩ := h j g hg
  exact ⟨h0, xs, ERow.below h1 hb, h2⟩
theorem GW.off {i k : Nat} (h : GW w B gs i k) (ho : Off P w w') (hP : ∀ g ∈ gs, ∀ q, ob g.1 = some q → ¬ P q) : GW w' B gs i k := fun j g hg => by
  obtain ⟨h0, xs, h1, h2⟩ := h j g hg
  exact ⟨h0, xs, ERow.off h1 ho fun q hq => hP g (List.mem_of_getElem? hg) q hq, h2⟩
theorem GW.next {i : Nat} {g : Sl × Sl} (h : GW w B gs i g.1.2.1) (hg : gs[i]? = some g) : GW w B gs (i + 1) 0 := fun j y hy => by
  obtain ⟨h0, xs, h1, h2, h3, h4⟩ := h j y hy
  refine ⟨h0, xs, h1, h2, fun hj => ?_, fun _ => by rw [List.take_zero]; rfl⟩
  rcases Nat.lt_or_ge j i with q | q
  · exact h3 q
  · obtain rfl : j = i := by omega
    rw [hg] at hy
    obtain rfl : g = y := by simpa using hy
    have := h4 rfl
    rw [List.take_of_length_le (by omega)] at this
    exact this
theorem GW.step {i k b : Nat} {g : Sl × Sl} (h : GW w B gs i k) (hd : ∀ (i j : Nat) (x y : Sl × Sl), gs[i]? = some x → gs[j]? = some y → i ≠ j → ∀ q, ob x.1 = some q → ob y.1 ≠ some q) (hg : gs[i]? = some g) (hb : g.1.1 = some ⟨b, 0, none⟩) (hk : k < g.1.2.1) : GW (w.setCells b (k * 7) (encE (wrE i k))) B gs i (k + 1) := fun j y hy => by
  have o1 : Off (fun q => q = b) w (w.setCells b (k * 7) (encE (wrE i k))) := Off.setCells (P := fun q => q = b) rfl _ _ _ (Off.refl _ _)
  have hob : ob g.1 = some b := by
    show (Value.slice g.1.1 g.1.2.1 g.1.2.2).ownBlock = some b
    rw [hb]; rfl
  obtain ⟨h0, xs, h1, h2, h3, h4⟩ := h j y hy
  by_cases hj : j = i
  · subst hj
    rw [hg] at hy
    obtain rfl : g = y := by simpa using hy
    have h5 := h1
    unfold slv at h5
    rw [hb] at h5
    have h6 := erow_set encE_len h5 (wrE j k) (i := k) (by omega)
    refine ⟨h0, xs.set k (wrE j k), ?_, by rw [List.length_set]; exact h2, fun q => absurd q (Nat.lt_irrefl _), fun _ => ?_⟩
    · unfold slv
      rw [hb]
      exact h6
    · rw [wrt_succ, ← h4 rfl]
      exact take_set_one (by omega)
  · refine ⟨h0, xs, ERow.off h1 o1 fun q hq e => hd j i y g hy hg hj q hq (by rw [e]; exact hob), h2, h3, fun q => absurd q hj⟩
/-- What stays of the pair behind its book's Alone. -/
structure RS (W : World) (X K : Nat) (bv mk ke rm L : Value) (o : Option (Int × Int)) (A A' : List Ent) (τ : Nat → Nat) (v6 v7 : Value) (gs : List (Sl × Sl)) (w wx : World) : Prop where
  hX : wx.heap[X]? = some (.cells #[bv, mk, ke, rm, L, .pointer (some ⟨K, 0, none⟩), v6, v7] 55 (0, 0))
  r6 : ERow wx W.heap.size 22 1 encSl v6 (gs.map Prod.fst)
  bk : Bt.Bks wx W.heap.size K (Bt.role0 K) (Bt.role0 K) [] []
  s4 : S4 wx W.heap.size X bv mk ke rm L A A' τ o
  off : Off (fun q => τ q ≠ 0 ∧ τ q ≠ 4) w wx
  tX : τ X = 5 ∧ X < w.heap.size
  tK : τ K = 1 ∧ K < w.heap.size
  t6 : ∀ q, v6.ownBlock = some q → τ q = 5
theorem RS.step (h : RS W X K bv mk ke rm L o A A' τ v6 v7 gs w wx) (ho : Off P wx wy) (hP : ∀ q, P q → τ q = 3) : RS W X K bv mk ke rm L o A A' τ v6 v7 gs w wy := by
  refine ⟨(ho.block X (blk_lt h.hX) fun p => by have := hP X p; have := h.tX.1; omega).trans h.hX, ERow.off h.r6 ho fun q hq p => by have := hP q p; have := h.t6 q hq; omega, ?_, h.s4.off ho (fun q _ p => by rw [hP q p]; decide) fun _ _ e => e, h.off.trans (ho.mono fun q p => by rw [hP q p]; decide), h.tX, h.tK, h.t6⟩
  refine h.bk.off (to_bt ho) fun q p => ?_
  have : q ≠ K := fun e => by subst e; have := hP q p; have := h.tK.1; omega
  exact ⟨if_neg this, if_neg this⟩
theorem RS.below (h : RS W X K bv mk ke rm L o A A' τ v6 v7 gs w wx) (hb : Below wx.heap.size wx wy) : RS W X K bv mk ke rm L o A A' τ v6 v7 gs w wy := h.step (P := fun _ => False) (Off.of_below hb) fun _ p => p.elim
end
end Go.Proofs.YtjbkfppibnlmoaaGreatDoor

/-
  The strong pair: alone.
-/
namespace Go.Proofs.YtjbkfppibnlmoaaGreatDoor
open Go.RowKit

section
variable {W w w' wx wy : World} {X K n m : Nat} {bv mk ke rm L v6 v7 : Value} {o : Option (Int × Int)} {A A' : List Ent} {τ τ' : Nat → Nat} {P : Nat → Prop} {gs : List (Sl × Sl)} {B : Nat}
/-- append of one entry: in its place where there is room, else elsewhere. -/
theorem ent_push {w : World} {B n c : Nat} {a : Option Addr} {xs : List Ent} (h : NRow w B (.slice a n c) xs) (x : Ent) (cs : Array Value) (hcs : cs = (encE x).toArray) (hl : xs.length ≤ 1000000) (hB : B ≤ w.heap.size) :
    ∃ a' c' w', (Builtin.append_ #[22, 22] 22 #[.slice a n c, .slice (some ⟨w.heap.size, 0, none⟩) 1 1]).run Tryz.prog (w.alloc (.cells cs 30)) = .ok (.slice a' (n + 1) c') w' ∧ NRow w' B (.slice a' (n + 1) c') (xs ++ [x]) ∧ ((n + 1 ≤ c ∧ Off (fun q => (Value.slice a n c).ownBlock = some q) w w' ∧ (Value.slice a' (n + 1) c').ownBlock = (Value.slice a n c).ownBlock) ∨ ((∀ q, (Value.slice a' (n + 1) c').ownBlock = some q → w.heap.size ≤ q) ∧ Below w.heap.size w w')) := by
  subst hcs
  have hn := ERow.len h
  have b1 := (Below.refl w.heap.size w).alloc (Nat.le_refl _) (.cells (encE x).toArray 30)
  have h1 : NRow (w.alloc (.cells (encE x).toArray 30)) B (.slice a n c) xs := ERow.below h b1
  obtain ⟨i, z, hi, hz, hzs, hs, hby⟩ := celE
  obtain ⟨v', w', hr, r, o, l⟩ := run_append_k2 (P := Tryz.prog) (w.alloc (.cells (encE x).toArray 30)) B 22 22 30 i z 7 120 Tryz.underlying22 hi hz hs hby hzs (.slice a n c) xs.length (xs.flatMap encE) h1 (some ⟨w.heap.size, 0, none⟩) 1 1 (encE x) rfl (fun e => by cases e) (fun a' ea j u hu => by
    cases ea
    rw [show (⟨w.heap.size, 0, none⟩ : Addr).add j = ⟨w.heap.size, j, none⟩ by rw [Addr.add_lit, Nat.zero_add], cell_new]
    simpa using hu) (encE_one x) (by omega) (by unfold maxLen; omega) (Nat.le_trans (Nat.mul_le_mul_right 120 (show _ ≤ 2000000 by omega)) (by decide)) (by simp; omega)
  have hR : NRow w' B v' (xs ++ [x]) := by
    unfold NRow ERow
    rw [List.length_append, List.flatMap_append]
    exact (show xs.flatMap encE ++ [x].flatMap encE = xs.flatMap encE ++ encE x by simp) ▸ r
  obtain ⟨a', c', e1, _⟩ := ERow.isSlice hR
  rw [List.length_append, ← hn] at e1
  simp only [List.length_singleton] at e1
  subst e1
  refine ⟨a', c', w', hr, hR, ?_⟩
  rcases l with ⟨g, cap, e1, e2⟩ | ⟨l1, l2⟩
  · simp only [Value.slice.injEq] at e1 e2
    obtain ⟨rfl, _, rfl⟩ := e1
    obtain ⟨rfl, _, rfl⟩ := e2
    refine Or.inl ⟨?_, (Off.of_below b1).trans o, rfl⟩
    rcases ERow.form hR with ⟨e, _⟩ | ⟨_, _, e, _, _, q, _⟩
    · cases e
    · simp only [Value.slice.injEq] at e
      rw [List.length_append] at q
      simp only [List.length_singleton] at q
      omega
  · refine Or.inr ⟨fun q hq => ?_, below_then b1 l2⟩
    rw [l1] at hq
    simp only [Option.some.injEq, World.size_alloc] at hq
    omega
/-- In the midst of growing. -/
def GrI (w3 : World) (a : Option Addr) (n k : Nat) (a8 : Option Addr) (c8 : Nat) (wx : World) : Prop := Below w3.heap.size w3 wx ∧ ((k = 0 ∧ a8 = a ∧ c8 = n) ∨ ∃ ys, ys.length = n + k ∧ NRow wx w3.heap.size (.slice a8 (n + k) c8) ys)
theorem GrI.step {w3 : World} {a a8 : Option Addr} {n k c8 : Nat} {xs : List Ent} (h : GrI w3 a n k a8 c8 wx) (hx : NRow w3 B (.slice a n n) xs) (hB : B ≤ w3.heap.size) (hn : n ≤ 1000) (hk : k < 8) (x : Ent) (cs : Array Value) (hcs : cs = (encE x).toArray) :
    ∃ a' c' w', (Builtin.append_ #[22, 22] 22 #[.slice a8 (n + k) c8, .slice (some ⟨wx.heap.size, 0, none⟩) 1 1]).run Tryz.prog (wx.alloc (.cells cs 30)) = .ok (.slice a' (n + (k + 1)) c') w' ∧ Hid (GrI w3 a n (k + 1) a' c' w') := by
  obtain ⟨hb, h1⟩ := h
  have hs := hb.size
  rcases h1 with ⟨rfl, rfl, rfl⟩ | ⟨ys, hy, hr⟩
  · have hln := ERow.len hx
    obtain ⟨a', c', w', r1, r2, r3⟩ := ent_push (ERow.below hx hb) x cs hcs (by omega) (by omega)
    refine ⟨a', c', w', r1, ?_⟩
    rcases r3 with ⟨q, _⟩ | ⟨q1, q2⟩
    · omega
    · refine ⟨below_then hb q2, Or.inr ⟨_, ?_, ERow.rebase r2 fun q hq => Nat.le_trans hs (q1 q hq)⟩⟩
      rw [List.length_append, List.length_singleton]
      omega
  · obtain ⟨a', c', w', r1, r2, r3⟩ := ent_push hr x cs hcs (by omega) hs
    refine ⟨a', c', w', r1, ?_, Or.inr ⟨_, ?_, r2⟩⟩
    · rcases r3 with ⟨_, q1, _⟩ | ⟨_, q2⟩
      · exact hb.trans (q1.below hs fun q hq => (ERow.lt hr hq).1)
      · exact below_then hb q2
    · rw [List.length_append, List.length_singleton]
      omega
/-- The parts when all that was kept is forgotten. -/
def tau0 (τ : Nat → Nat) (X K q : Nat) : Nat := if q = X then 5 else if q = K then 1 else if τ q = 4 then 4 else 0
theorem tau0_X (τ : Nat → Nat) (X K : Nat) : tau0 τ X K X = 5 := if_pos rfl
theorem tau0_K {τ : Nat → Nat} {X K : Nat} (h : K ≠ X) : tau0 τ X K K = 1 := by unfold tau0; rw [if_neg h, if_pos rfl]
theorem tau0_4 {τ : Nat → Nat} {X K q : Nat} (h1 : q ≠ X) (h2 : q ≠ K) (h : τ q = 4) : tau0 τ X K q = 4 := by unfold tau0; rw [if_neg h1, if_neg h2, if_pos h]
theorem tau0_0 {τ : Nat → Nat} {X K q : Nat} (h1 : q ≠ X) (h2 : q ≠ K) (h : τ q ≠ 4) : tau0 τ X K q = 0 := by unfold tau0; rw [if_neg h1, if_neg h2, if_neg h]
theorem RS.done (h : RS W X K bv mk ke rm L o A A' τ v6 v7 gs w wx) (hn : ∀ q, w.heap.size ≤ q → τ q = 0) (ho : ∀ q, τ q ≠ 0 → W.heap.size ≤ q) (hb : Below W.heap.size W w) :
    ∃ τ', SS W X K bv mk ke rm L o A A' τ' 0 0 ((wx.setCell ⟨X, 6, none⟩ (.slice none 0 0)).setCell ⟨X, 7, none⟩ (.slice none 0 0)) ∧ Off (fun q => τ q ≠ 0 ∧ τ q ≠ 4) w ((wx.setCell ⟨X, 6, none⟩ (.slice none 0 0)).setCell ⟨X, 7, none⟩ (.slice none 0 0)) ∧ ∀ q, τ' q = 0 ∨ τ' q = τ q := by
  have o2 : Off (fun q => q = X) wx ((wx.setCell ⟨X, 6, none⟩ (.slice none 0 0)).setCell ⟨X, 7, none⟩ (.slice none 0 0)) := ((Off.refl (fun q => q = X) wx).setCell (p := ⟨X, 6, none⟩) rfl _).setCell (p := ⟨X, 7, none⟩) rfl _
  have k1 := set_heap (set_heap h.hX 6 (.slice none 0 0)) 7 (.slice none 0 0)
  have hKX : K ≠ X := fun e => by have := h.tK.1; have := h.tX.1; subst e; omega
  have hO : Off (fun q => τ q ≠ 0 ∧ τ q ≠ 4) w ((wx.setCell ⟨X, 6, none⟩ (.slice none 0 0)).setCell ⟨X, 7, none⟩ (.slice none 0 0)) := h.off.trans (o2.mono fun q e => by subst e; rw [h.tX.1]; decide)
  obtain ⟨wz, hwz⟩ : ∃ x, (wx.setCell ⟨X, 6, none⟩ (.slice none 0 0)).setCell ⟨X, 7, none⟩ (.slice none 0 0) = x := ⟨_, rfl⟩
  rw [hwz] at o2 k1 hO ⊢
  refine ⟨tau0 τ X K, ⟨⟨.slice none 0 0, .slice none 0 0, [], Bt.role0 K, Bt.role0 K, [], [], k1, h.bk.off (to_bt o2) fun q e => ⟨if_neg (by rw [e]; exact fun e => hKX e.symm), if_neg (by rw [e]; exact fun e => hKX e.symm)⟩, ⟨fun i e he => (by simp at he), Nat.le_refl _⟩, ⟨fun i e he => (by simp at he), Nat.le_refl _⟩, ?_, ?_, ⟨ERow.nil _ _ _ _ _, ERow.nil _ _ _ _ _, fun q e => (by cases e), fun q e => (by rcases e with e | e <;> cases e), Nat.le_refl _⟩, fun i g hg => (by simp at hg)⟩, tau0_X _ _ _, fun q hq => ?_, fun q hq => ?_, h.s4.off o2 (fun q _ e => by rw [e, h.tX.1]; decide) fun q _ e => ?_, hb.trans (hO.below hb.size fun q hq => ho q hq.1), ho X (by rw [h.tX.1]; decide)⟩, hO, fun q => ?_⟩
  · intro q
    unfold Bt.role0
    by_cases e : q = K
    · subst e
      rw [if_pos rfl, tau0_K hKX]
      exact ⟨fun _ => rfl, fun _ => Or.inl rfl⟩
    · rw [if_neg e]
      exact ⟨fun h => by omega, fun h => absurd rfl h⟩
  · intro q
    unfold Bt.role0
    by_cases e : q = K
    · subst e
      rw [if_pos rfl, tau0_K hKX]
      exact ⟨fun _ => rfl, fun _ => Or.inl rfl⟩
    · rw [if_neg e]
      exact ⟨fun h => by omega, fun h => absurd rfl h⟩
  · have hs := hO.size
    have := h.tX.2
    have := h.tK.2
    exact tau0_0 (by omega) (by omega) (by rw [hn q (by omega)]; decide)
  · refine ho q fun e => ?_
    by_cases e1 : q = X
    · subst e1; have := h.tX.1; omega
    · by_cases e2 : q = K
      · subst e2; have := h.tK.1; omega
      · rw [tau0_0 e1 e2 (by rw [e]; decide)] at hq
        exact hq rfl
  · exact tau0_4 (fun e1 => by subst e1; have := h.tX.1; omega) (fun e2 => by subst e2; have := h.tK.1; omega) e
  · by_cases e1 : q = X
    · subst e1; rw [tau0_X, h.tX.1]; exact Or.inr rfl
    · by_cases e2 : q = K
      · subst e2; rw [tau0_K e1, h.tK.1]; exact Or.inr rfl
      · by_cases e3 : τ q = 4
        · rw [tau0_4 e1 e2 e3, e3]; exact Or.inr rfl
        · exact Or.inl (tau0_0 e1 e2 e3)
end
end Go.Proofs.YtjbkfppibnlmoaaGreatDoor
