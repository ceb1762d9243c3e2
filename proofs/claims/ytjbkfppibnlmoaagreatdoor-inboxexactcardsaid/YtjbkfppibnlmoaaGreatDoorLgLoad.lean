import Derived.Test.YtjbkfppibnlmoaaGreatDoorLgRef
import Derived.Test.YtjbkfppibnlmoaaGreatDoorLgMap
import Derived.Test.YtjbkfppibnlmoaaGreatDoorIbLi
/-
  put of the shelf.
-/
namespace Go.Proofs.YtjbkfppibnlmoaaGreatDoor.Lg
open Go.RowKit

/-- What a call leaves of a shelf. -/
def ShfQ (w : World) (B sb M : Nat) (v : Value) (K R : Int) (es' : List Ent) (w' : World) : Prop :=
  ∃ v', Shf w' B sb M v' K R es' ∧ Off (Ft sb M v) w w' ∧ ∀ q, v'.ownBlock = some q → v.ownBlock = some q ∨ w.heap.size ≤ q
theorem ShfQ.of_below {w w1 w' : World} {B sb M : Nat} {v : Value} {K R : Int} {es' : List Ent} (hb : Below w.heap.size w w1) (h : ShfQ w1 B sb M v K R es' w') : ShfQ w B sb M v K R es' w' := by
  obtain ⟨v', h1, h2, h3⟩ := h
  exact ⟨v', h1, (Off.of_below hb).trans h2, fun q e => (h3 q e).imp id fun g => Nat.le_trans hb.size g⟩
theorem ShfQ.then_below {w w1 w' : World} {B sb M : Nat} {v : Value} {K R : Int} {es' : List Ent} (h : ShfQ w B sb M v K R es' w1) (hb : Below w1.heap.size w1 w') : ShfQ w B sb M v K R es' w' := by
  obtain ⟨v', h1, h2, h3⟩ := h
  exact ⟨v', h1.below hb, h2.trans (Off.of_below hb), h3⟩
section
variable {w w' : World} {B sb M : Nat} {v : Value} {K R : Int} {es : List Ent}
set_option maxRecDepth 100000 in
set_option maxHeartbeats 4000000 in
theorem put_any (h : Shf w B sb M v K R es) (hB : B ≤ w.heap.size) {e : Ent} (hf : fi e.ct es = none) (hm : mayB e = true) (hk : KeyS e.ct) (hl : es.length < 1200000000000) :
    Calls Tryz.prog 42 #[.pointer (some ⟨sb, 0, none⟩), .agg #[.string e.ct, .slice e.tp e.tn e.tc, .int .i64 e.nu, .int .i64 e.tk, .slice e.cp e.cn e.cc, .string e.cd, .slice e.ap e.an e.ac]] w fun r w' => r = .returned (.tuple #[]) ∧ ShfQ w B sb M v K R (es ++ [e]) w' := by
  have bv : Below w.heap.size w (w.alloc (.cells #[.string e.ct, .slice e.tp e.tn e.tc, .int .i64 e.nu, .int .i64 e.tk, .slice e.cp e.cn e.cc, .string e.cd, .slice e.ap e.an e.ac] 30)) := (Below.refl _ _).alloc (Nat.le_refl _) _
  have bx := Box.new w #[.string e.ct, .slice e.tp e.tn e.tc, .int .i64 e.nu, .int .i64 e.tk, .slice e.cp e.cn e.cc, .string e.cd, .slice e.ap e.an e.ac] 30
  obtain ⟨V, hV⟩ : ∃ V, w.alloc (.cells #[.string e.ct, .slice e.tp e.tn e.tc, .int .i64 e.nu, .int .i64 e.tk, .slice e.cp e.cn e.cc, .string e.cd, .slice e.ap e.an e.ac] 30) = V := ⟨_, rfl⟩
  rw [hV] at bv bx
  have HS : Hid (Shf V B sb M v K R es) := h.below bv
  have HB : Hid (Below w.heap.size w V) := bv
  have HX : Hid (Box V w.heap.size #[.string e.ct, .slice e.tp e.tn e.tc, .int .i64 e.nu, .int .i64 e.tk, .slice e.cp e.cn e.cc, .string e.cd, .slice e.ap e.an e.ac]) := bx
  obtain ⟨a, c, hv, _⟩ := h.row.isSlice
  obtain ⟨n, hn⟩ : ∃ n, es.length = n := ⟨_, rfl⟩
  rw [hn] at hv hl
  have HN : Hid (es.length = n) := hn
  have HW : Hid (w.heap.size ≠ sb ∧ w.heap.size ≠ M ∧ ∀ q, v.ownBlock = some q → w.heap.size ≠ q) := ⟨by have := h.lt; omega, by have := h.map.lt; omega, fun q hq => by have := (h.row.lt hq).2; omega⟩
  have HD : Hid (Dis es ∧ (∀ x ∈ es, mayB x = true) ∧ fi e.ct es = none ∧ mayB e = true) := ⟨h.dis, h.ok, hf, hm⟩
  have cx := bx.cell
  have k2 : V.cell? ⟨sb, 2, none⟩ = some (.slice a n c) := by rw [← hv]; exact HS.out.cells.2.2.1
  have k3 := HS.out.cells.2.2.2.1
  obtain ⟨W1, hst, hm1, o1⟩ := (HS.out.below (Below.drew (Below.refl _ _))).map.storeB (w := V.drew) (by omega) hk n
  rw [← HN.out] at hm1
  rw [show (updF (fun s => fi s es) e.ct (some es.length)) = (fun s => fi s (es ++ [e])) from (fi_snoc hf).symm, show (es.length + if ((fun s => fi s es) e.ct).isSome = true then 0 else 1) = (es ++ [e]).length by simp [hf]] at hm1
  obtain ⟨xb, hxb⟩ : ∃ xb, w.heap.size = xb := ⟨_, rfl⟩
  have HL : Hid (w.heap.size = xb) := hxb
  rw [hxb] at cx
  have o1' : Off (fun q => q = M) V W1 := (Off.refl _ _).drew.trans o1
  have s1 : ∀ o, W1.cell? ⟨sb, o, none⟩ = V.cell? ⟨sb, o, none⟩ := fun o => o1'.cell (p := ⟨sb, o, none⟩) HS.out.lt HS.out.neM
  have x1 : ∀ o, W1.cell? ⟨xb, o, none⟩ = V.cell? ⟨xb, o, none⟩ := fun o => o1'.cell (p := ⟨xb, o, none⟩) (by rw [← hxb]; exact bx.lt) (by rw [← hxb]; exact HW.out.2.1)
  have H1 : Hid (MapF W1 M (fun s => fi s (es ++ [e])) (es ++ [e]).length ∧ Off (fun q => q = M) V W1) := ⟨hm1, o1'⟩
  have lx : xb < W1.heap.size := by rw [← hxb]; exact Nat.lt_of_lt_of_le bx.lt o1'.size
  have lsb : sb < W1.heap.size := Nat.lt_of_lt_of_le HS.out.lt o1'.size
  -- the list
  have hrow1 : NRow W1 B (.slice a n c) es := by rw [← hv]; exact HS.out.row.off o1' fun g hg => (HS.out.neL hg).2
  obtain ⟨a2, c2, W2, hap, r2, o2, b2⟩ := run_epushB (P := Tryz.prog) (t := 22) Tryz.underlying22 celE encE_len encE_one (w := W1.drew) (hrow1.off (P := fun _ => False) (Off.refl _ _).drew (fun _ _ => id)) e #[.string e.ct, .slice e.tp e.tn e.tc, .int .i64 e.nu, .int .i64 e.tk, .slice e.cp e.cn e.cc, .string e.cd, .slice e.ap e.an e.ac] rfl (by omega) (by decide) (Nat.le_trans hB (Nat.le_trans HB.out.size o1'.size))
  rw [HN.out] at hap r2 b2
  have o3 : Off (fun q => v.ownBlock = some q) W1 W2 := (Off.refl _ _).drew.trans (by rw [hv]; exact o2)
  have s2 : ∀ o, W2.cell? ⟨sb, o, none⟩ = W1.cell? ⟨sb, o, none⟩ := fun o => o3.cell (p := ⟨sb, o, none⟩) lsb fun e => (HS.out.neL e).1 rfl
  have hblk2 : W2.heap[sb]? = some (.cells #[.int .i64 K, .int .i64 R, v, .map (some M), .int .i64 (nOp es : Int)] 89 (0, 0)) := ((o3.block sb lsb fun e => (HS.out.neL e).1 rfl).trans (o1'.block sb HS.out.lt HS.out.neM)).trans HS.out.blk
  have f2 := hfroz hblk2
  have x2 : ∀ o, W2.cell? ⟨xb, o, none⟩ = W1.cell? ⟨xb, o, none⟩ := fun o => o3.cell (p := ⟨xb, o, none⟩) lx fun e => HW.out.2.2 xb e hxb
  have lx2 : xb < W2.heap.size := Nat.lt_of_lt_of_le lx o3.size
  have HE : Hid (∀ z : Int, z = (nOp (es ++ [e]) : Int) → ∀ W3, W3.heap[sb]? = some (.cells #[.int .i64 K, .int .i64 R, .slice a2 (n + 1) c2, .map (some M), .int .i64 z] 89 (0, 0)) → Off (fun q => q = sb) W2 W3 → ShfQ w B sb M v K R (es ++ [e]) W3) := fun z hz W3 hb3 o4 => by
    subst hz
    have hne : ∀ q, (Value.slice a2 (n + 1) c2).ownBlock = some q → v.ownBlock = some q ∨ V.heap.size ≤ q := fun q hq => by
      rcases b2 with b2 | b2
      · exact Or.inl (by rw [hv]; rw [b2] at hq; exact hq)
      · rw [b2] at hq
        simp only [Option.some.injEq] at hq
        subst hq
        exact Or.inr (Nat.le_trans o1'.size (Nat.le_succ W1.heap.size))
    refine ⟨.slice a2 (n + 1) c2, ⟨hb3, ?_, ?_, HD.out.1.snoc HD.out.2.2.1, ?_, ?_⟩, ?_, fun q hq => (hne q hq).imp id (fun g => Nat.le_trans HB.out.size g)⟩
    · exact r2.off o4 fun g hg e => by
        rcases hne g hg with g1 | g1
        · exact (HS.out.neL g1).1 e
        · have := HS.out.lt; omega
    · have hM : M < W1.heap.size := H1.out.1.lt
      refine (H1.out.1.off o3 (fun e => (HS.out.neL e).2 rfl)).off o4 (fun e => HS.out.neM e.symm)
    · rw [List.length_append, HN.out]; simp; omega
    · intro x hx
      rcases List.mem_append.1 hx with g | g
      · exact HD.out.2.1 x g
      · obtain rfl : x = e := by simpa using g
        exact HD.out.2.2.2
    · refine (Off.of_below HB.out).trans (((H1.out.2.mono fun q e => Or.inr (Or.inl e)).trans (o3.mono fun q e => Or.inr (Or.inr e))).trans (o4.mono fun q e => Or.inl e))
  have hap' : (Builtin.append_ #[22, 22] 22 #[.slice a n c, .slice (some ⟨W1.heap.size, 0, none⟩) 1 1]).run Tryz.prog (W1.alloc (.cells #[.string e.ct, .slice e.tp e.tn e.tc, .int .i64 e.nu, .int .i64 e.tk, .slice e.cp e.cn e.cc, .string e.cd, .slice e.ap e.an e.ac] 30)).drew = .ok (.slice a2 (n + 1) c2) W2 := hap
  have k2' : W1.cell? ⟨sb, 2, none⟩ = some (.slice a n c) := by rw [s1]; exact k2
  have k3' : W1.cell? ⟨sb, 3, none⟩ = some (.map (some M)) := by rw [s1]; exact k3
  have cx' : ∀ o, W1.cell? ⟨xb, o, none⟩ = _ := fun o => (x1 o).trans (cx o)
  have k2a : ∀ o, (W1.alloc o).cell? ⟨sb, 2, none⟩ = some (.slice a n c) := fun o => by rw [World.cell?_alloc_lt _ _ ⟨sb, 2, none⟩ lsb]; exact k2'
  have cxa : ∀ q o, (W1.alloc q).cell? ⟨xb, o, none⟩ = _ := fun q o => (World.cell?_alloc_lt _ _ ⟨xb, o, none⟩ lx).trans (cx' o)
  have k2'' : W2.cell? ⟨sb, 2, none⟩ = some (.slice a n c) := by rw [s2]; exact k2'
  have k4'' : W2.cell? ⟨sb, 4, none⟩ = some (.int .i64 (nOp es : Int)) := by rw [s2, s1]; exact HS.out.cells.2.2.2.2
  have cx'' : ∀ o, W2.cell? ⟨xb, o, none⟩ = _ := fun o => (x2 o).trans (cx' o)
  have HK : Hid (W2.heap[sb]? = some (.cells #[.int .i64 K, .int .i64 R, v, .map (some M), .int .i64 (nOp es : Int)] 89 (0, 0))) := hblk2
  have hno := nOp_le es
  rw [HN.out] at hno
  have HA := nOp_snoc es e
  obtain ⟨no, hno'⟩ : ∃ no, nOp es = no := ⟨_, rfl⟩
  rw [hno'] at hno k4'' HA HK
  have hdc := isDecided_any e
  have q9 : IntKind.i64.wrap ((no : Int) + 1) = (no : Int) + 1 := by rw [IntKind.wrap_i64]; omega
  have hxs : ¬ xb = sb := by rw [← hxb]; exact HW.out.1
  have hsx : ¬ sb = xb := fun e => hxs e.symm
  clear h hB hf hm hk hn bv bx hm1 o1 o1' s1 x1 hrow1 hap r2 o2 b2 o3 s2 x2 hblk2 hno' hno
  rw [hxb] at HW
  go_enter Tryz.func42, Tryz.ntmps42
  go_wp2_with fail
  clear hV hxb
  go_region_held3 (fun z => z.cell? ⟨sb, 3, none⟩ = some (.map (some M)) ∧ z.cell? ⟨sb, 2, none⟩ = some (.slice a n c) ∧ z.cell? ⟨xb, 0, none⟩ = some (.string e.ct)) (simp [*]) (first | (refine step_upd_run rfl (.tmp 7) (.tmp 9) (.tmp 14) 87 rfl rfl rfl rfl hst ?_))
  clear hst k2 k3 cx
  go_wp2_with fail
  go_region_law (first | (refine step_app_run rfl (.tmp 19) (.tmp 21) 22 rfl rfl rfl hap' ?_))
  all_goals
    cases hd : dcB e with
    | true =>
      have HZ : Hid (ShfQ w B sb M v K R (es ++ [e]) (W2.setCell ⟨sb, 2, none⟩ (.slice a2 (n + 1) c2))) := HE.out no (by rw [HA, if_pos hd]; rfl) _ (set_heap HK.out 2 _) (Off.setCell (P := fun q => q = sb) (Off.refl _ _) (p := ⟨sb, 2, none⟩) rfl _)
      have hdc' := hdc (W2.setCell ⟨sb, 2, none⟩ (.slice a2 (n + 1) c2))
      rw [hd] at hdc'
      clear hd HE HA
      go_wp2_with fail
      refine hdc'.mono ?_
      rintro _ w5 ⟨rfl, hb5⟩
      have HZ5 : Hid (ShfQ w B sb M v K R (es ++ [e]) w5) := HZ.out.then_below hb5
      clear hb5 hdc hdc'
      go_wp2_with fail
      go_end0
      exact ⟨rfl, HZ5.out⟩
    | false =>
      have hb4 := set_heap HK.out 2 (.slice a2 (n + 1) c2)
      have o4 : Off (fun q => q = sb) W2 (W2.setCell ⟨sb, 2, none⟩ (.slice a2 (n + 1) c2)) := Off.setCell (P := fun q => q = sb) (Off.refl _ _) (p := ⟨sb, 2, none⟩) rfl _
      have hdc' := hdc (W2.setCell ⟨sb, 2, none⟩ (.slice a2 (n + 1) c2))
      rw [hd] at hdc'
      have HA' : Hid (((no : Int) + 1) = (nOp (es ++ [e]) : Int)) := by unfold Hid; rw [HA, hd]; simp
      have H4 : Hid (_ ∧ _) := ⟨hb4, o4⟩
      clear hd HA hb4 o4
      go_wp2_with fail
      refine hdc'.mono ?_
      rintro _ w5 ⟨rfl, hb5⟩
      have hb6 := (hb5.block sb (blk_lt H4.out.1)).trans H4.out.1
      have o6 : Off (fun q => q = sb) W2 w5 := H4.out.2.trans (Off.of_below hb5)
      have c6 := hcell hb6 4
      have g6 := hfroz hb6 4
      have HZ : Hid (ShfQ w B sb M v K R (es ++ [e]) (w5.setCell ⟨sb, 4, none⟩ (.int .i64 ((no : Int) + 1)))) := HE.out _ HA'.out _ (set_heap hb6 4 _) (Off.setCell (P := fun q => q = sb) o6 (p := ⟨sb, 4, none⟩) rfl _)
      clear hb5 hdc hdc' hb6 o6 H4 HE HA'
      go_wp2_with fail
      go_end0
      exact ⟨rfl, HZ.out⟩
end
end Go.Proofs.YtjbkfppibnlmoaaGreatDoor.Lg

/-
  Load of any list: refused at an entry, or for too many decided ones.
-/
namespace Go.Proofs.YtjbkfppibnlmoaaGreatDoor.Lg
open Go.RowKit

/-- The first i entries may stand. -/
def gdS (R : Int) (es : List Ent) (i : Nat) : Prop := ∀ j x, j < i → es[j]? = some x → refS R (es.take j) x = 0
theorem gd_or (R : Int) (es : List Ent) : ∀ i, gdS R es i ∨ ∃ j x, j < i ∧ es[j]? = some x ∧ refS R (es.take j) x ≠ 0 ∧ gdS R es j := by
  intro i
  induction i with
  | zero => exact Or.inl fun j x hj => by omega
  | succ i ih =>
    rcases ih with h | ⟨j, x, hj, h1, h2, h3⟩
    · cases hx : es[i]? with
      | none =>
        refine Or.inl fun j x hj hj' => ?_
        by_cases e : j < i
        · exact h j x e hj'
        · obtain rfl : j = i := by omega
          rw [hx] at hj'
          cases hj'
      | some y =>
        by_cases h0 : refS R (es.take i) y = 0
        · refine Or.inl fun j x hj hj' => ?_
          by_cases e : j < i
          · exact h j x e hj'
          · obtain rfl : j = i := by omega
            rw [hx] at hj'
            obtain rfl := Option.some.inj hj'
            exact h0
        · exact Or.inr ⟨i, y, by omega, hx, h0, h⟩
    · exact Or.inr ⟨j, x, by omega, h1, h2, h3⟩
theorem take_one {α : Type} {l : List α} {i : Nat} {x : α} (hx : l[i]? = some x) : l.take (i + 1) = l.take i ++ [x] := by
  rw [List.take_add_one, hx]; rfl
section
variable {w : World} {K R : Int} {es : List Ent}
set_option maxRecDepth 100000 in
set_option maxHeartbeats 4000000 in
theorem load_bad {B n c : Nat} {a : Option Addr} (hr : NRow w B (.slice a n c) es) (hks : ∀ e ∈ es, KeyS e.ct) (hN : n ≤ 1200000000000) (k1 : 1 ≤ K) (k2 : K ≤ 64) (r1 : 1 ≤ R) (r2 : R ≤ 32) {j : Nat} {y : Ent} (hy : es[j]? = some y) {z : Int} (hz : refS R (es.take j) y = z) (h0 : z ≠ 0) (hg : gdS R es j) : Calls Tryz.prog 15 #[.int .i64 K, .int .i64 R, .slice a n c] w fun r w' => ∃ b, r = .returned (.tuple #[.pointer none, .iface 94 (.pointer (some ⟨b, 0, none⟩))]) ∧ Hid (IFault w' b (j : Int) z ∧ w.heap.size ≤ b ∧ Below w.heap.size w w') := by
  have hn : es.length = n := hr.len.symm
  have hns := newShelf_any K R w
  have g1 : ¬ K < 1 := by omega
  have g2 : ¬ K > 64 := by omega
  have g3 : ¬ R < 1 := by omega
  have g4 : ¬ R > 32 := by omega
  have hjn : j < n := by rw [← hn]; exact (List.getElem?_eq_some_iff.1 hy).1
  have HA : Hid (NRow w B (.slice a n c) es ∧ (∀ e ∈ es, KeyS e.ct) ∧ es.length = n ∧ n ≤ 1200000000000 ∧ es[j]? = some y ∧ refS R (es.take j) y = z ∧ gdS R es j ∧ j < n) := ⟨hr, hks, hn, hN, hy, hz, hg, hjn⟩
  have hj12 : (j : Int) ≤ 1200000000000 := by omega
  have hzb : (z != 0) = true := by simpa using h0
  have hze : (z == 0) = false := by simpa using h0
  clear hr hks hN hn hy hz hg k1 k2 r1 r2 hjn
  go_enter Tryz.func15, Tryz.ntmps15
  go_wp2_with fail
  refine hns.mono ?_
  rintro _ w1 ⟨rfl, hs1, hb1⟩
  obtain ⟨sb, hsb⟩ : ∃ sb, w.heap.size + 1 = sb := ⟨_, rfl⟩
  rw [hsb] at hs1 ⊢
  have H1 : Hid (Shf w1 w.heap.size sb w.heap.size (.slice none 0 0) K R [] ∧ Below w.heap.size w w1 ∧ w.heap.size + 1 = sb) := ⟨⟨hs1.blk, hs1.row, hs1.map, hs1.dis, by simp, hs1.ok⟩, hb1, hsb⟩
  clear hns hs1 hb1 g1 g2 g3 g4 hsb
  go_wp2_with fail
  go_loopw [32] (fun t wx => ∃ i : Nat, i ≤ j ∧ t = .int .i64 i ∧ Hid (∃ v, Shf wx w.heap.size sb w.heap.size v K R (es.take i) ∧ Below w.heap.size w wx)) (fun t _ => j - (intOf t).toNat)
  case atStart => exact ⟨0, Nat.zero_le _, rfl, .slice none 0 0, by simpa using H1.out.1, H1.out.2.1⟩
  case round =>
    obtain ⟨i, hin, rfl, HI⟩ := hrel
    have hlt1 : (i : Int) < n := by have := HA.out.2.2.2.2.2.2.2; omega
    obtain ⟨v, hs, hb⟩ := HI.out
    obtain ⟨x, hx⟩ : ∃ x, es[i]? = some x := ⟨_, List.getElem?_eq_getElem (by have := HA.out.2.2.1; have := HA.out.2.2.2.2.2.2.2; omega)⟩
    obtain ⟨g, rfl, hg, hc⟩ := nrow_cells (HA.out.1.below hb) hx
    obtain ⟨d0, d1, d2, d3, d4, d5, d6⟩ := hc
    have hkx := HA.out.2.1 x (List.mem_of_getElem? hx)
    have bv : Below wr.heap.size wr (wr.alloc (.cells #[.string x.ct, .slice x.tp x.tn x.tc, .int .i64 x.nu, .int .i64 x.tk, .slice x.cp x.cn x.cc, .string x.cd, .slice x.ap x.an x.ac] 30)) := (Below.refl _ _).alloc (Nat.le_refl _) _
    have bx := Box.new wr #[.string x.ct, .slice x.tp x.tn x.tc, .int .i64 x.nu, .int .i64 x.tk, .slice x.cp x.cn x.cc, .string x.cd, .slice x.ap x.an x.ac] 30
    obtain ⟨V, hV⟩ : ∃ V, wr.alloc (.cells #[.string x.ct, .slice x.tp x.tn x.tc, .int .i64 x.nu, .int .i64 x.tk, .slice x.cp x.cn x.cc, .string x.cd, .slice x.ap x.an x.ac] 30) = V := ⟨_, rfl⟩
    rw [hV] at bv bx
    obtain ⟨xb, hxb⟩ : ∃ xb, wr.heap.size = xb := ⟨_, rfl⟩
    have HX : Hid (Box V xb #[.string x.ct, .slice x.tp x.tn x.tc, .int .i64 x.nu, .int .i64 x.tk, .slice x.cp x.cn x.cc, .string x.cd, .slice x.ap x.an x.ac]) := by unfold Hid; rw [← hxb]; exact bx
    have cx := HX.out.cell
    have hrf := refuse_any (hs.below bv) x hkx
    have HS : Hid (Shf V w.heap.size sb w.heap.size v K R (es.take i) ∧ Below w.heap.size w V) := ⟨hs.below bv, below_then hb bv⟩
    have HXX : Hid (es[i]? = some x ∧ KeyS x.ct) := ⟨hx, hkx⟩
    by_cases hij : i < j
    · have hrz := HA.out.2.2.2.2.2.2.1 i x hij hx
      rw [hrz] at hrf
      have HT : Hid (fi x.ct (es.take i) = none ∧ mayB x = true ∧ (es.take i).length < 1200000000000 ∧ es.take (i + 1) = es.take i ++ [x]) := by
        obtain ⟨m1, _, m3, _⟩ := refS_zero hrz
        exact ⟨m3, m1, by rw [List.length_take]; have := HA.out.2.2.2.1; have := HA.out.2.2.2.2.2.2.2; omega, take_one hx⟩
      clear hs hb hx hkx hrz bv bx hg HI
      go_wp2_with fail
      clear hV hxb
      refine hrf.mono ?_
      rintro _ w2 ⟨rfl, hb2⟩
      have cx2 := (HX.out.below hb2).cell
      have hs2 := HS.out.1.below hb2
      have hpt := put_any hs2 (Nat.le_trans HS.out.2.size hb2.size) HT.out.1 HT.out.2.1 HXX.out.2 HT.out.2.2.1
      have HB2 : Hid (Below w.heap.size w w2 ∧ Shf w2 w.heap.size sb w.heap.size v K R (es.take i)) := ⟨below_then HS.out.2 hb2, hs2⟩
      clear hrf hb2 hs2 cx d0 d1 d2 d3 d4 d5 d6 HX HS
      go_wp2_with fail
      refine hpt.mono ?_
      rintro _ w3 ⟨rfl, v3, h3, o3, _⟩
      have HI3 : Hid (∃ v, Shf w3 w.heap.size sb w.heap.size v K R (es.take (i + 1)) ∧ Below w.heap.size w w3) := by
        refine ⟨v3, by rw [HT.out.2.2.2]; exact h3, HB2.out.1.trans (o3.below HB2.out.1.size fun q hq => ?_)⟩
        have := H1.out.2.2
        rcases hq with g | g | g
        · omega
        · omega
        · exact (HB2.out.2.row.lt g).1
      clear hpt h3 o3 cx2 HB2
      go_wp2_with fail
      go_roundw
      case rel => exact ⟨i + 1, hij, by go_num, HI3⟩
      case measure => simp [intOf]; omega
    · obtain rfl : i = j := by omega
      obtain rfl : x = y := by have := HA.out.2.2.2.2.1; rw [hx] at this; exact Option.some.inj this
      rw [HA.out.2.2.2.2.2.1] at hrf
      clear hs hb hx hkx bv bx hg HI
      go_wp2_with fail
      clear hV hxb
      refine hrf.mono ?_
      rintro _ w2 ⟨rfl, hb2⟩
      have hft := fault_any (i : Int) z w2
      have HB2 : Hid (Below w.heap.size w w2) := below_then HS.out.2 hb2
      clear hrf hb2 cx d0 d1 d2 d3 d4 d5 d6 HX HS
      go_wp2_with fail
      refine hft.mono ?_
      rintro _ w3 ⟨rfl, hf, hb3⟩
      have HF : Hid (IFault w3 w2.heap.size (i : Int) z ∧ w.heap.size ≤ w2.heap.size ∧ Below w.heap.size w w3) := ⟨hf, HB2.out.size, below_then HB2.out hb3⟩
      clear hft hf hb3
      go_wp2_with fail
      go_ret2
      exact ⟨_, rfl, HF⟩
set_option maxRecDepth 100000 in
set_option maxHeartbeats 4000000 in
theorem load_many {B n c : Nat} {a : Option Addr} (hr : NRow w B (.slice a n c) es) (hN : n ≤ 1200000000000) (k1 : 1 ≤ K) (k2 : K ≤ 64) (r1 : 1 ≤ R) (r2 : R ≤ 32) (hg : gdS R es n) (hm : manyB K es = true) : Calls Tryz.prog 15 #[.int .i64 K, .int .i64 R, .slice a n c] w fun r w' => ∃ b, r = .returned (.tuple #[.pointer none, .iface 94 (.pointer (some ⟨b, 0, none⟩))]) ∧ Hid (IFault w' b (fdI es) 301 ∧ w.heap.size ≤ b ∧ Below w.heap.size w w') := by
  have hn : es.length = n := hr.len.symm
  have hns := newShelf_any K R w
  have g1 : ¬ K < 1 := by omega
  have g2 : ¬ K > 64 := by omega
  have g3 : ¬ R < 1 := by omega
  have g4 : ¬ R > 32 := by omega
  have HA : Hid (NRow w B (.slice a n c) es ∧ es.length = n ∧ n ≤ 1200000000000 ∧ gdS R es n ∧ manyB K es = true ∧ 0 ≤ K ∧ K ≤ 64) := ⟨hr, hn, hN, hg, hm, by omega, k2⟩
  have hn12 : (n : Int) ≤ 1200000000000 := by omega
  clear hr hN hn hg hm k1 k2 r1 r2
  go_enter Tryz.func15, Tryz.ntmps15
  go_wp2_with fail
  refine hns.mono ?_
  rintro _ w1 ⟨rfl, hs1, hb1⟩
  obtain ⟨sb, hsb⟩ : ∃ sb, w.heap.size + 1 = sb := ⟨_, rfl⟩
  rw [hsb] at hs1 ⊢
  have H1 : Hid (Shf w1 w.heap.size sb w.heap.size (.slice none 0 0) K R [] ∧ Below w.heap.size w w1 ∧ w.heap.size + 1 = sb) := ⟨⟨hs1.blk, hs1.row, hs1.map, hs1.dis, by simp, hs1.ok⟩, hb1, hsb⟩
  clear hns hs1 hb1 g1 g2 g3 g4 hsb
  go_wp2_with fail
  go_loopw [32] (fun t wx => ∃ i : Nat, i ≤ n ∧ t = .int .i64 i ∧ Hid (∃ v, Shf wx w.heap.size sb w.heap.size v K R (es.take i) ∧ Below w.heap.size w wx)) (fun t _ => n - (intOf t).toNat)
  case atStart => exact ⟨0, Nat.zero_le _, rfl, .slice none 0 0, by simpa using H1.out.1, H1.out.2.1⟩
  case round =>
    obtain ⟨i, hin, rfl, HI⟩ := hrel
    obtain ⟨v, hs, hb⟩ := HI.out
    by_cases hlt : i < n
    · have hlt1 : (i : Int) < n := by omega
      obtain ⟨x, hx⟩ : ∃ x, es[i]? = some x := ⟨_, List.getElem?_eq_getElem (by have := HA.out.2.1; omega)⟩
      obtain ⟨g, rfl, hg, hc⟩ := nrow_cells (HA.out.1.below hb) hx
      obtain ⟨d0, d1, d2, d3, d4, d5, d6⟩ := hc
      have hrz := HA.out.2.2.2.1 i x hlt hx
      have HT : Hid (fi x.ct (es.take i) = none ∧ mayB x = true ∧ (es.take i).length < 1200000000000 ∧ es.take (i + 1) = es.take i ++ [x] ∧ KeyS x.ct) := by
        obtain ⟨m1, _, m3, _⟩ := refS_zero hrz
        exact ⟨m3, m1, by rw [List.length_take]; have := HA.out.2.2.1; omega, take_one hx, keyS_of m1⟩
      have bv : Below wr.heap.size wr (wr.alloc (.cells #[.string x.ct, .slice x.tp x.tn x.tc, .int .i64 x.nu, .int .i64 x.tk, .slice x.cp x.cn x.cc, .string x.cd, .slice x.ap x.an x.ac] 30)) := (Below.refl _ _).alloc (Nat.le_refl _) _
      have bx := Box.new wr #[.string x.ct, .slice x.tp x.tn x.tc, .int .i64 x.nu, .int .i64 x.tk, .slice x.cp x.cn x.cc, .string x.cd, .slice x.ap x.an x.ac] 30
      obtain ⟨V, hV⟩ : ∃ V, wr.alloc (.cells #[.string x.ct, .slice x.tp x.tn x.tc, .int .i64 x.nu, .int .i64 x.tk, .slice x.cp x.cn x.cc, .string x.cd, .slice x.ap x.an x.ac] 30) = V := ⟨_, rfl⟩
      rw [hV] at bv bx
      obtain ⟨xb, hxb⟩ : ∃ xb, wr.heap.size = xb := ⟨_, rfl⟩
      have HX : Hid (Box V xb #[.string x.ct, .slice x.tp x.tn x.tc, .int .i64 x.nu, .int .i64 x.tk, .slice x.cp x.cn x.cc, .string x.cd, .slice x.ap x.an x.ac]) := by unfold Hid; rw [← hxb]; exact bx
      have cx := HX.out.cell
      have hrf := refuse_any (hs.below bv) x HT.out.2.2.2.2
      have HS : Hid (Shf V w.heap.size sb w.heap.size v K R (es.take i) ∧ Below w.heap.size w V) := ⟨hs.below bv, below_then hb bv⟩
      rw [hrz] at hrf
      clear hs hb hx hrz bv bx hg HI
      go_wp2_with fail
      clear hV hxb
      refine hrf.mono ?_
      rintro _ w2 ⟨rfl, hb2⟩
      have cx2 := (HX.out.below hb2).cell
      have hs2 := HS.out.1.below hb2
      have hpt := put_any hs2 (Nat.le_trans HS.out.2.size hb2.size) HT.out.1 HT.out.2.1 HT.out.2.2.2.2 HT.out.2.2.1
      have HB2 : Hid (Below w.heap.size w w2 ∧ Shf w2 w.heap.size sb w.heap.size v K R (es.take i)) := ⟨below_then HS.out.2 hb2, hs2⟩
      clear hrf hb2 hs2 cx d0 d1 d2 d3 d4 d5 d6 HX HS
      go_wp2_with fail
      refine hpt.mono ?_
      rintro _ w3 ⟨rfl, v3, h3, o3, _⟩
      have HI3 : Hid (∃ v, Shf w3 w.heap.size sb w.heap.size v K R (es.take (i + 1)) ∧ Below w.heap.size w w3) := by
        refine ⟨v3, by rw [HT.out.2.2.2.1]; exact h3, HB2.out.1.trans (o3.below HB2.out.1.size fun q hq => ?_)⟩
        have := H1.out.2.2
        rcases hq with g | g | g
        · omega
        · omega
        · exact (HB2.out.2.row.lt g).1
      clear hpt h3 o3 cx2 HB2
      go_wp2_with fail
      go_roundw
      case rel => exact ⟨i + 1, hlt, by go_num, HI3⟩
      case measure => simp [intOf]; omega
    · have hlt1 : ¬ (i : Int) < n := by omega
      rw [List.take_of_length_le (by have := HA.out.2.1; omega)] at hs
      have hmn := many_any hs ⟨HA.out.2.2.2.2.2.1, HA.out.2.2.2.2.2.2⟩
      rw [HA.out.2.2.2.2.1] at hmn
      have HS : Hid (Shf wr w.heap.size sb w.heap.size v K R es ∧ Below w.heap.size w wr) := ⟨hs, hb⟩
      clear hs hb HI
      go_wp2_with fail
      refine hmn.mono ?_
      rintro _ w4 ⟨rfl, m, hw4⟩
      have hbb : Below wr.heap.size wr w4 := by rw [hw4]; exact below_drewN (Below.refl _ _) m
      have hfd := first_any (HS.out.1.below hbb)
      have HB4 : Hid (Below w.heap.size w w4) := below_then HS.out.2 hbb
      clear hmn hw4 hbb HS
      go_wp2_with fail
      refine hfd.mono ?_
      rintro _ w5 ⟨rfl, hb5⟩
      have hft := fault_any (fdI es) 301 w5
      have HB5 : Hid (Below w.heap.size w w5) := below_then HB4.out hb5
      clear hfd hb5
      go_wp2_with fail
      refine hft.mono ?_
      rintro _ w6 ⟨rfl, hf, hb6⟩
      have HF : Hid (IFault w6 w5.heap.size (fdI es) 301 ∧ w.heap.size ≤ w5.heap.size ∧ Below w.heap.size w w6) := ⟨hf, HB5.out.size, below_then HB5.out hb6⟩
      clear hft hf hb6
      go_wp2_with fail
      go_ret2
      exact ⟨_, rfl, HF⟩
end
end Go.Proofs.YtjbkfppibnlmoaaGreatDoor.Lg
