import Derived.Test.YtjbkfppibnlmoaaGreatDoorIbRb6
import Derived.Test.YtjbkfppibnlmoaaGreatDoorIcAx
/-
  A list of entries that is handed in, each with its marks.
-/
namespace Go.Proofs.YtjbkfppibnlmoaaGreatDoor.Lg
open Go.RowKit

/-- The entries as they are handed in: each list in a block of its own. -/
def hsL : List Ent → List (Nat × Nat × Nat) → List Ent
  | e :: es, g :: gs => e.hd g.1 g.2.1 g.2.2 :: hsL es gs
  | _, _ => []
theorem hsL_len : ∀ (es : List Ent) (gs : List (Nat × Nat × Nat)), es.length = gs.length → (hsL es gs).length = es.length
  | [], [], _ => rfl
  | e :: es, g :: gs, h => by
    simp only [hsL, List.length_cons]
    rw [hsL_len es gs (by simpa using h)]
  | [], g :: gs, h => by simp at h
  | e :: es, [], h => by simp at h
theorem hsL_get : ∀ (es : List Ent) (gs : List (Nat × Nat × Nat)) (k : Nat) (e : Ent) (g : Nat × Nat × Nat), es[k]? = some e → gs[k]? = some g → (hsL es gs)[k]? = some (e.hd g.1 g.2.1 g.2.2)
  | [], _, k, e, g, h, _ => by simp at h
  | _ :: _, [], k, e, g, _, h => by simp at h
  | e' :: es, g' :: gs, 0, e, g, h1, h2 => by
    simp only [List.getElem?_cons_zero, Option.some.injEq] at h1 h2
    subst h1
    subst h2
    rfl
  | e' :: es, g' :: gs, k + 1, e, g, h1, h2 => by
    rw [List.getElem?_cons_succ] at h1 h2
    simp only [hsL, List.getElem?_cons_succ]
    exact hsL_get es gs k e g h1 h2
theorem hsL_snoc : ∀ (es : List Ent) (gs : List (Nat × Nat × Nat)) (e : Ent) (g : Nat × Nat × Nat), es.length = gs.length → hsL (es ++ [e]) (gs ++ [g]) = hsL es gs ++ [e.hd g.1 g.2.1 g.2.2]
  | [], [], e, g, _ => rfl
  | x :: es, y :: gs, e, g, h => by
    simp only [List.cons_append, hsL]
    rw [hsL_snoc es gs e g (by simpa using h)]
  | [], y :: gs, e, g, h => by simp at h
  | x :: es, [], e, g, h => by simp at h
theorem hsL_tws {es : List Ent} {gs : List (Nat × Nat × Nat)} (h : es.length = gs.length) : Tws (hsL es gs) es := by
  refine ⟨hsL_len es gs h, fun k l m hl hm => ?_⟩
  obtain ⟨g, hg⟩ : ∃ g, gs[k]? = some g := ⟨_, List.getElem?_eq_getElem (by rw [← h]; exact (List.getElem?_eq_some_iff.1 hm).1)⟩
  rw [hsL_get es gs k m g hm hg] at hl
  obtain rfl := Option.some.inj hl
  exact Tw.symm ⟨_, _, _, _, _, _, rfl⟩
/-- Each with its marks, one behind the other. -/
structure HdsAt (w : World) (B : Nat) (es : List Ent) (gs : List (Nat × Nat × Nat)) (i : Nat) : Prop where
  len : es.length = gs.length
  hd : ∀ k e g, i ≤ k → es[k]? = some e → gs[k]? = some g → Hd w B g.1 g.2.1 g.2.2 e
  up : ∀ (k k' : Nat) (g g' : Nat × Nat × Nat), k < k' → gs[k]? = some g → gs[k']? = some g' → g.2.2 < g'.1
section
variable {w w' : World} {B i : Nat} {es : List Ent} {gs : List (Nat × Nat × Nat)}
theorem HdsAt.below (h : HdsAt w B es gs i) (hb : Below w.heap.size w w') : HdsAt w' B es gs i := ⟨h.len, fun k e g hk he hg => (h.hd k e g hk he hg).below hb, h.up⟩
theorem HdsAt.keep (h : HdsAt w B es gs i) (hk : ∀ q cs, B ≤ q → q < w.heap.size → w.heap[q]? = some (.cells cs 5 (0, 0)) → w'.heap[q]? = w.heap[q]?) : HdsAt w' B es gs i := ⟨h.len, fun k e g hik he hg => by
  have h1 := h.hd k e g hik he hg
  have key : ∀ {g n : Nat} {bs : List Int}, Mkd w B g n bs → Mkd w' B g n bs := fun {g n bs} hm => by
    obtain ⟨cs, hc⟩ := mkd_type hm
    exact hm.keep (hk g cs hm.lt.1 hm.lt.2 hc)
  exact ⟨key h1.t, key h1.c, key h1.a, h1.n1, h1.n2⟩, h.up⟩
theorem HdsAt.snoc {e : Ent} {g1 g2 g3 : Nat} (h : HdsAt w B es gs 0) (hB : B ≤ w.heap.size) (hd : Hd w' w.heap.size g1 g2 g3 e) (hb : Below w.heap.size w w') : HdsAt w' B (es ++ [e]) (gs ++ [(g1, g2, g3)]) 0 := by
  have hl := h.len
  have g0 : ∀ (k : Nat) (g : Nat × Nat × Nat), (gs ++ [(g1, g2, g3)])[k]? = some g → (k < gs.length ∧ gs[k]? = some g) ∨ (k = gs.length ∧ g = (g1, g2, g3)) := fun k g hg => by
    by_cases hk : k < gs.length
    · rw [List.getElem?_append_left hk] at hg; exact Or.inl ⟨hk, hg⟩
    · have := (List.getElem?_eq_some_iff.1 hg).1
      simp only [List.length_append, List.length_singleton] at this
      obtain rfl : k = gs.length := by omega
      rw [List.getElem?_append_right (Nat.le_refl _), Nat.sub_self] at hg
      simp only [List.getElem?_cons_zero, Option.some.injEq] at hg
      exact Or.inr ⟨rfl, hg.symm⟩
  refine ⟨by rw [List.length_append, List.length_append, hl]; rfl, fun k x g _ hx hg => ?_, fun k k' g g' hk hg hg' => ?_⟩
  · rcases g0 k g hg with ⟨hk, hg1⟩ | ⟨rfl, rfl⟩
    · rw [List.getElem?_append_left (by omega)] at hx
      exact (h.hd k x g (Nat.zero_le _) hx hg1).below hb
    · rw [List.getElem?_append_right (by omega), ← hl, Nat.sub_self] at hx
      simp only [List.getElem?_cons_zero, Option.some.injEq] at hx
      subst hx
      exact ⟨hd.t.base hB, hd.c.base hB, hd.a.base hB, hd.n1, hd.n2⟩
  · rcases g0 k g hg with ⟨hk1, hg1⟩ | ⟨rfl, rfl⟩ <;> rcases g0 k' g' hg' with ⟨hk2, hg2⟩ | ⟨rfl, rfl⟩
    · exact h.up k k' g g' hk hg1 hg2
    · obtain ⟨x, hx⟩ : ∃ x, es[k]? = some x := ⟨_, List.getElem?_eq_getElem (by omega)⟩
      have := (h.hd k x g (Nat.zero_le _) hx hg1).a.lt.2
      have := hd.t.lt.1
      show g.2.2 < g1
      omega
    · omega
    · omega
theorem HdsAt.lies (h : HdsAt w B es gs 0) : ∀ x ∈ hsL es gs, Lies w x := fun x hx => by
  obtain ⟨k, hk, rfl⟩ := List.getElem_of_mem hx
  rw [hsL_len es gs h.len] at hk
  have h1 := List.getElem?_eq_getElem hk
  have h2 := List.getElem?_eq_getElem (show k < gs.length by rw [← h.len]; exact hk)
  have h3 := hsL_get es gs k _ _ h1 h2
  rw [List.getElem?_eq_getElem (by rw [hsL_len es gs h.len]; exact hk)] at h3
  rw [Option.some.inj h3]
  exact (h.hd k _ _ (Nat.zero_le _) h1 h2).lies
theorem hs_keys (hl : es.length = gs.length) (hk : ∀ e ∈ es, KeyS e.ct) : ∀ x ∈ hsL es gs, KeyS x.ct := fun x hx => by
  obtain ⟨k, hk', rfl⟩ := List.getElem_of_mem hx
  rw [hsL_len es gs hl] at hk'
  have h1 := List.getElem?_eq_getElem hk'
  have h2 := List.getElem?_eq_getElem (show k < gs.length by rw [← hl]; exact hk')
  have h3 := hsL_get es gs k _ _ h1 h2
  rw [List.getElem?_eq_getElem (by rw [hsL_len es gs hl]; exact hk')] at h3
  rw [Option.some.inj h3]
  exact hk es[k] (List.getElem_mem hk')
end
theorem DB.form {w : World} {B : Nat} {mk ke rm L : Value} {es : List Ent} {o : Option (Int × Int)} (h : DB w B mk ke rm L es o) : ∃ k0 r0 la ln lc, mk = .bool o.isSome ∧ ke = .int .i64 k0 ∧ rm = .int .i64 r0 ∧ L = .slice la ln lc := by
  rcases o with _ | ⟨K, R⟩
  · obtain ⟨h1, h2, h3, h4⟩ := h
    exact ⟨0, 0, none, 0, 0, h1, h2, h3, h4⟩
  · obtain ⟨h1, h2, h3, ls, h4, _⟩ := h
    obtain ⟨a, c, e, _⟩ := ERow.isSlice h4
    exact ⟨K, R, a, _, c, h1, h2, h3, e⟩
end Go.Proofs.YtjbkfppibnlmoaaGreatDoor.Lg

/-
  The law's decides.
-/
namespace Go.Proofs.YtjbkfppibnlmoaaGreatDoor
open Go.RowKit

section
variable {W w w' : World} {X K n C D E : Nat} {bv mk ke rm L : Value} {o : Option (Int × Int)} {A A' : List Ent}
set_option maxRecDepth 100000 in
set_option maxHeartbeats 8000000 in
theorem decides_any (h : LS W X K bv mk ke rm L C D E o A A n w) (hn : n ≤ 800000) (hE : ErrType W) {s cd : ByteArray} {po : Option Addr} {m co : Nat} {bs : List Int} (hk : KeyS s) (hb : Byts W po m bs) (hm : m + 90 ≤ 140737488355328) :
    Calls Tryz.prog 23 #[.pointer (some ⟨X, 0, none⟩), .string s, .string cd, .slice po m co] w fun r w' => r = .returned (.bool true) ∧ Hid (∃ L', LS W X K bv mk ke rm L' 0 0 0 o (dcSo o A s cd m bs) (dcSo o A s cd m bs) (n + 1) w') := by
  have hpB : ∀ b of_, po = some ⟨b, of_, none⟩ → 0 < m → b < W.heap.size := fun b of_ e h0 => by
    obtain ⟨b', o', e', hl, _⟩ := hb.cell 0 h0
    rw [e] at e'
    simp only [Option.some.injEq, Addr.mk.injEq] at e'
    omega
  have hd := hand_full (c := co) w (hb.below h.bel) hm
  have HI : Hid (ErrType W ∧ Byts W po m bs ∧ KeyS s ∧ m + 90 ≤ 140737488355328 ∧ LS W X K bv mk ke rm L C D E o A A n w ∧ ∀ b of_, po = some ⟨b, of_, none⟩ → 0 < m → b < W.heap.size) := ⟨hE, hb, hk, hm, h, hpB⟩
  clear h hE hb hk hm hpB
  go_enter Tryz.func23, Tryz.ntmps23
  go_wp2_with fail
  refine hd.mono ?_
  rintro _ w1 ⟨g, rfl, hh1, b1⟩
  clear hd
  have hls := HI.out.2.2.2.2.1.hole b1 w1.heap.size w1.heap.size
  have hud := u_dec (cd := cd) hls (Nat.le_refl _) rfl HI.out.2.2.1 (hh1.byts) (co := m + 90) (by have := HI.out.2.2.2.1; omega)
  have x0 := hls.cells.1
  have H1 : Hid (Mkd w1 w.heap.size g m bs ∧ w.heap.size ≤ w1.heap.size ∧ g < w1.heap.size) := ⟨hh1, b1.size, hh1.lt.2⟩
  clear hh1 b1 hls
  go_wp2_with fail
  refine hud.mono ?_
  rintro _ w2 ⟨a, q, k, ev, rfl, H2⟩
  have hrd := r_dec (cd := cd) (s := s) (co := co) H2.out.1 (Nat.le_refl _) (HI.out.2.1.below H2.out.1.bel) HI.out.2.2.2.2.2
  clear hud x0
  go_wp2_with fail
  refine hrd.mono ?_
  rintro _ w3 ⟨a', q', k', rfl, H3⟩
  clear hrd
  obtain ⟨L', p1, p2, p3, p4⟩ := H3.out
  obtain ⟨q1, q2, q3, q4, q5⟩ := H2.out
  have hsz : ∀ l : List ByteArray, ∀ u u' : Option Addr, ∀ i j i' j' : Nat, ∀ z z' : World, ∀ B B' : Nat, TRow z B (.slice u i j) l → TRow z' B' (.slice u' i' j') l → i = i' := fun l u u' i j i' j' z z' B B' h1 h2 => by rw [ERow.len h1, ERow.len h2]
  obtain rfl : q = q' := hsz _ _ _ _ _ _ _ _ _ _ _ q3 p2
  have ht3 : TRow w3 w1.heap.size (.slice a q k) (gnSo o A s cd m bs) := ERow.keep q3 fun g' hg' => p3 g' (Nat.le_trans H1.out.2.1 (ERow.lt q3 hg').1) (ERow.lt q3 hg').2
  have hqb : q ≤ 1000000 := by
    rw [ERow.len q3]
    have : (gnSo o A s cd m bs).length ≤ 1 := by
      unfold gnSo gnS goneS
      rcases o with _ | ⟨K0, R⟩
      · simp
      · simp only
        split
        · cases fi s A with
          | none => simp
          | some i =>
            simp only
            split
            · split <;> simp
            · simp
        · simp
    omega
  have HP : Hid (LS W X K bv mk ke rm L' w.heap.size w1.heap.size w2.heap.size o (dcSo o A s cd m bs) (dcSo o A s cd m bs) n w3 ∧ OEv w3 w1.heap.size ev 0 (decCo o A s cd m) ∧ TRow w3 w1.heap.size (.slice a q k) (gnSo o A s cd m bs) ∧ TRow w3 w2.heap.size (.slice a' q k') (gnSo o A s cd m bs) ∧ Mkd w3 w.heap.size g m bs ∧ w1.heap.size ≤ w2.heap.size) := ⟨p1, ev_keep q2 rfl fun q h1 h2 => p3 q (Nat.le_trans H1.out.2.1 h1) h2, ht3, p2, (H1.out.1.keep (q4 g H1.out.1.lt.1 H1.out.2.2)).keep (p3 g H1.out.1.lt.1 (Nat.lt_of_lt_of_le H1.out.2.2 q5)), q5⟩
  clear H2 H3 p1 p2 p3 p4 q1 q2 q3 q4 q5 ht3 hsz
  obtain ⟨cc, hcc⟩ : ∃ c, decCo o A s cd m = c := ⟨_, rfl⟩
  have hcd := code_any HP.out.2.1 (errType_below HI.out.1 HP.out.1.bel)
  rw [hcc] at hcd ⊢
  clear hcc
  go_wp2_with fail
  refine hcd.mono ?_
  rintro _ w5 ⟨rfl, b5⟩
  clear hcd
  go_wp2_with fail
  refine (num_any _ _).mono ?_
  rintro _ w9 ⟨rfl, h9⟩
  subst w9
  have hst := sameTexts_true (ERow.below HP.out.2.2.1 b5) (ERow.below HP.out.2.2.2.1 b5)
  have HP5 : Hid (LS W X K bv mk ke rm L' w.heap.size w1.heap.size w2.heap.size o (dcSo o A s cd m bs) (dcSo o A s cd m bs) n w5 ∧ TRow w5 w1.heap.size (.slice a q k) (gnSo o A s cd m bs) ∧ Mkd w5 w.heap.size g m bs) := ⟨HP.out.1.below b5, ERow.below HP.out.2.2.1 b5, HP.out.2.2.2.2.1.below b5⟩
  have HG : Hid (w1.heap.size ≤ w2.heap.size) := HP.out.2.2.2.2.2
  clear b5 HP
  go_wp2_with fail
  refine hst.mono ?_
  rintro _ w6 ⟨rfl, m6, rfl⟩
  have b6 := below_drewN (Below.refl w5.heap.size w5) m6
  have hkp := Kept_true (c := co) (w5.drewN m6) (HP5.out.2.2.below b6) (HI.out.2.1.below (HP5.out.1.below b6).bel) HI.out.2.2.2.1
  clear hst b6
  go_wp2_with fail
  refine hkp.mono ?_
  rintro _ w7 ⟨rfl, m7, rfl⟩
  rw [World.drewN_drewN]
  have b7 := below_drewN (Below.refl w5.heap.size w5) (m6 + m7)
  have x5 := (HP5.out.1.below b7).cells.2.2.2.1
  have htx := texts_any (HP5.out.1.below b7) (by omega) (ERow.below HP5.out.2.1 b7) hqb
  have HM7 : Hid (Mkd (w5.drewN (m6 + m7)) w.heap.size g m bs) := HP5.out.2.2.below b7
  clear hkp b7 HP5
  go_wp2_with fail
  refine htx.mono ?_
  rintro _ w8 ⟨rfl, H8⟩
  have hm8 : Mkd w8 w.heap.size g m bs := HM7.out.keep (by
    obtain ⟨cs, hc⟩ := mkd_type HM7.out
    rw [hc]
    exact H8.out.2.2 g cs _ hc nLB)
  have HM8 : Hid (Mkd w8 w.heap.size g m bs) := hm8
  have htu := turn_any (BRow.prefix (m := m) hm8.1 (by omega))
  clear htx x5 hm8 HM7
  go_wp2_with fail
  refine htu.mono ?_
  rintro _ w9 ⟨rfl, O9⟩
  have HZ : Hid (∃ L', LS W X K bv mk ke rm L' 0 0 0 o (dcSo o A s cd m bs) (dcSo o A s cd m bs) (n + 1) w9) := ⟨L', (H8.out.1.within O9.out (fun q hq => by
    subst hq
    exact ⟨⟨HM8.out.lt.1, H1.out.2.2, Nat.lt_of_lt_of_le H1.out.2.2 HG.out⟩, mkd_type HM8.out⟩) HI.out.2.2.2.2.1.bel.size).free⟩
  clear htu
  go_wp2_with fail
  go_ret
  exact ⟨rfl, HZ⟩
end
end Go.Proofs.YtjbkfppibnlmoaaGreatDoor

/-
  The law's finds and tells.
-/
namespace Go.Proofs.YtjbkfppibnlmoaaGreatDoor
open Go.RowKit

theorem blk_new {w : World} {q : Nat} {x x' : Obj} (h : q = w.heap.size) (e : x = x') : (w.alloc x).heap[q]? = some x' := by
  subst h
  subst e
  exact heap_alloc_new _ _
theorem ent_kp {w w' : World} {q : Nat} {cs : Array Value} (h : w.heap[q]? = some (.cells cs 30 (0, 0))) (hk : Kp w w') : w'.heap[q]? = some (.cells cs 30 (0, 0)) := hk.2 q cs _ h nLE
section
variable {W w w' : World} {X K n C D E : Nat} {bv mk ke rm L : Value} {o : Option (Int × Int)} {A A' : List Ent}
set_option maxRecDepth 100000 in
set_option maxHeartbeats 8000000 in
theorem finds_any (h : LS W X K bv mk ke rm L C D E o A A n w) (hn : n ≤ 700000) {s : ByteArray} (hk : KeyS s) :
    Calls Tryz.prog 25 #[.pointer (some ⟨X, 0, none⟩), .string s] w fun r w' => r = .returned (.bool true) ∧ Hid (LS W X K bv mk ke rm L C D E o A A (n + 3) w') := by
  have hfu := u_find h hk
  obtain ⟨q1, q2, q3⟩ := fd_bnd h.bnd.2.2 s
  have HI : Hid (LS W X K bv mk ke rm L C D E o A A n w) := h
  have HR : Hid (∀ z, Below w.heap.size w z → Calls Tryz.prog 59 #[.pointer (some ⟨X, 1, none⟩), .string s] z (EnQ z (fdE s A) (fi s A).isSome)) := fun z hz => r_find (h.below hz) s
  have x0 := h.cells.1
  generalize fdE s A = m at hfu q1 q2 q3 HR
  generalize (fi s A).isSome = t at hfu HR
  have HN : Hid (m.tn ≤ 8192 ∧ m.cn ≤ 2048 ∧ m.an ≤ 2048) := ⟨q1, q2, q3⟩
  clear q1 q2 q3 h
  go_enter Tryz.func25, Tryz.ntmps25
  go_wp2_with fail
  refine hfu.mono ?_
  rintro _ w1 ⟨a, c, a', c', a'', c'', rfl, ho1, b1⟩
  clear hfu x0
  go_upto_region 2 with fail
  have HV1 : Hid (Below w.heap.size w (w1.alloc (.cells #[.string m.ct, .slice a m.tn c, .int .i64 m.nu, .int .i64 m.tk, .slice a' m.cn c', .string m.cd, .slice a'' m.an c''] 30)) ∧ (w1.alloc (.cells #[.string m.ct, .slice a m.tn c, .int .i64 m.nu, .int .i64 m.tk, .slice a' m.cn c', .string m.cd, .slice a'' m.an c''] 30)).heap[w1.heap.size]? = some (.cells #[.string m.ct, .slice a m.tn c, .int .i64 m.nu, .int .i64 m.tk, .slice a' m.cn c', .string m.cd, .slice a'' m.an c''] 30 (0, 0)) ∧ Own (w1.alloc (.cells #[.string m.ct, .slice a m.tn c, .int .i64 m.nu, .int .i64 m.tk, .slice a' m.cn c', .string m.cd, .slice a'' m.an c''] 30)) w.heap.size (m.wi a c a' c' a'' c'')) := ⟨b1.alloc b1.size _, heap_alloc_new _ _, ho1.below ((Below.refl _ _).alloc (Nat.le_refl _) _)⟩
  clear ho1 b1
  obtain ⟨V1, hV1⟩ : ∃ V, w1.alloc (.cells #[.string m.ct, .slice a m.tn c, .int .i64 m.nu, .int .i64 m.tk, .slice a' m.cn c', .string m.cd, .slice a'' m.an c''] 30) = V := ⟨_, rfl⟩
  rw [hV1] at HV1 ⊢
  clear hV1
  obtain ⟨A1, hA1⟩ : ∃ b, w1.heap.size = b := ⟨_, rfl⟩
  rw [hA1] at HV1 ⊢
  clear hA1
  have hfr := HR.out V1 HV1.out.1
  go_wp2_with fail
  refine hfr.mono ?_
  rintro _ w2 ⟨p, d, p', d', p'', d'', rfl, ho2, b2⟩
  clear hfr HR
  go_upto_region 3 with fail
  have HV2 : Hid (Below w.heap.size w (w2.alloc (.cells #[.string m.ct, .slice p m.tn d, .int .i64 m.nu, .int .i64 m.tk, .slice p' m.cn d', .string m.cd, .slice p'' m.an d''] 30)) ∧ (w2.alloc (.cells #[.string m.ct, .slice p m.tn d, .int .i64 m.nu, .int .i64 m.tk, .slice p' m.cn d', .string m.cd, .slice p'' m.an d''] 30)).heap[w2.heap.size]? = some (.cells #[.string m.ct, .slice p m.tn d, .int .i64 m.nu, .int .i64 m.tk, .slice p' m.cn d', .string m.cd, .slice p'' m.an d''] 30 (0, 0)) ∧ Own (w2.alloc (.cells #[.string m.ct, .slice p m.tn d, .int .i64 m.nu, .int .i64 m.tk, .slice p' m.cn d', .string m.cd, .slice p'' m.an d''] 30)) V1.heap.size (m.wi p d p' d' p'' d'') ∧ (w2.alloc (.cells #[.string m.ct, .slice p m.tn d, .int .i64 m.nu, .int .i64 m.tk, .slice p' m.cn d', .string m.cd, .slice p'' m.an d''] 30)).heap[A1]? = some (.cells #[.string m.ct, .slice a m.tn c, .int .i64 m.nu, .int .i64 m.tk, .slice a' m.cn c', .string m.cd, .slice a'' m.an c''] 30 (0, 0)) ∧ Own (w2.alloc (.cells #[.string m.ct, .slice p m.tn d, .int .i64 m.nu, .int .i64 m.tk, .slice p' m.cn d', .string m.cd, .slice p'' m.an d''] 30)) w.heap.size (m.wi a c a' c' a'' c'')) := by
    have b3 : Below V1.heap.size V1 (w2.alloc (.cells #[.string m.ct, .slice p m.tn d, .int .i64 m.nu, .int .i64 m.tk, .slice p' m.cn d', .string m.cd, .slice p'' m.an d''] 30)) := b2.alloc b2.size _
    exact ⟨below_then HV1.out.1 b3, heap_alloc_new _ _, ho2.below ((Below.refl _ _).alloc (Nat.le_refl _) _), blk_below HV1.out.2.1 b3, HV1.out.2.2.below b3⟩
  clear ho2 b2 HV1
  obtain ⟨V2, hV2⟩ : ∃ V, w2.alloc (.cells #[.string m.ct, .slice p m.tn d, .int .i64 m.nu, .int .i64 m.tk, .slice p' m.cn d', .string m.cd, .slice p'' m.an d''] 30) = V := ⟨_, rfl⟩
  rw [hV2] at HV2 ⊢
  clear hV2
  obtain ⟨A2, hA2⟩ : ∃ b, w2.heap.size = b := ⟨_, rfl⟩
  rw [hA2] at HV2 ⊢
  clear hA2
  have cx := hcell HV2.out.2.2.2.1
  have htk := tk_any (HI.out.below HV2.out.1) (by omega) (m.wi a c a' c' a'' c'') ⟨⟨_, HV2.out.2.2.2.2⟩, by show m.tn ≤ _; have := HN.out.1; omega, by show m.cn ≤ _; have := HN.out.2.1; omega, by show m.an ≤ _; have := HN.out.2.2; omega⟩
  go_wp2_with fail
  refine htk.mono ?_
  rintro _ w3 ⟨rfl, H3⟩
  clear htk cx
  have cx := hcell (ent_kp HV2.out.2.2.2.1 H3.out.2)
  have cy := hcell (ent_kp HV2.out.2.1 H3.out.2)
  have hsm := same_true (m.wi a c a' c' a'' c'') (w := w3) (p := p) (c := d) (q := p') (d := d') (r := p'') (f := d'') (HV2.out.2.2.2.2.kp H3.out.2).lies (HV2.out.2.2.1.kp H3.out.2).lies (by show m.tn ≤ _; have := HN.out.1; omega) (by show m.cn ≤ _; have := HN.out.2.1; omega) (by show m.an ≤ _; have := HN.out.2.2; omega)
  have HL : Hid (LS W X K bv mk ke rm L C D E o A A (n + 3) w3) := H3.out.1
  clear H3 HV2 HI
  go_wp2_with fail
  refine hsm.mono ?_
  rintro _ w4 ⟨rfl, b4⟩
  have HZ : Hid (LS W X K bv mk ke rm L C D E o A A (n + 3) w4) := HL.out.below b4
  clear hsm b4 cx cy
  go_wp2_with fail
  go_ret
  exact ⟨rfl, HZ⟩
end
end Go.Proofs.YtjbkfppibnlmoaaGreatDoor
