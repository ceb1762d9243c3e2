/-
  The program's write, right, Print.
-/
import Derived.Test.YtnilmmfbliogiaaGreatDoorTdRefD
namespace Go.Proofs.YtnilmmfbliogiaaGreatDoor
open Go.RowKit

/-- Worlds that keep what lies in V. -/
def Sub (V : World) : Type := { x : World // Below V.heap.size V x }
theorem wp_region_class {P : Program} {V : World} {id : Nat} {Q : Exit → Act → World → Prop} {a : Act} {w : World} {l : List Oper} (hw : Below V.heap.size V w) (hm : P.follows .mixedOrders = true) (hB : Region.lexB .any l.toArray = true)
    (h : wpQuiet P l.toArray (fun w' => ∃ x : Sub V, w' = x.1) (fun a' => ∀ w', (∃ x : Sub V, w' = x.1) → Q .normal a' w') l a) : (Code.region id l.toArray true).wp P Q a w :=
  wp_region_quiet (C := fun w' => ∃ x : Sub V, w' = x.1) hm hB ⟨⟨_, Below.drew hw⟩, rfl⟩ (by simpa using h)
theorem sub_of {P : Program} {f : FuncId} {args : Array Value} {R : Ending} {V : World} (c : ∀ w, Calls P f args w fun r w' => r = R ∧ Below w.heap.size w w') (x : Sub V) : Calls P f args x.1 fun r x' => r = R ∧ ∃ y : Sub V, x' = y.1 :=
  (c x.1).mono fun _ x' ⟨h, hb⟩ => ⟨h, ⟨x', below_then x.2 hb⟩, rfl⟩
theorem sub_box {V : World} {b : Nat} {cs : Array Value} (h : Box V b cs) (x : Sub V) (o : Nat) : x.1.cell? ⟨b, o, none⟩ = cs[o]? := (h.below x.2).cell o
theorem rep_zero : ∀ c, Lib.repeatL [48] c = List.replicate c (48 : UInt8)
  | 0 => rfl
  | c + 1 => by rw [Lib.repeatL, rep_zero c, List.replicate_succ]; rfl
def wrDs (ds : ByteArray) (sc : Nat) : ByteArray := ⟨(wrD (bl ds) sc).toArray⟩
def wrSs (neg : Bool) (ds : ByteArray) (sc : Nat) : ByteArray := ⟨(wrS neg (bl ds) sc).toArray⟩
theorem wrD_len (ds : List UInt8) (sc : Nat) : (wrD ds sc).length = max (sc + 1) ds.length := by unfold wrD; rw [List.length_append, List.length_replicate]; omega
theorem wrDs_size (ds : ByteArray) (sc : Nat) : (wrDs ds sc).size = max (sc + 1) ds.size := by
  rw [← bl_len, show bl (wrDs ds sc) = wrD (bl ds) sc from rfl, wrD_len, bl_len]
set_option maxRecDepth 100000 in
set_option maxHeartbeats 4000000 in
theorem write_any (neg : Bool) (ds : ByteArray) (sc : Nat) (w : World) (hsc : sc ≤ 16) (hz : ds.size ≤ 140737488355328) : Calls Tryz.prog 20 #[.agg #[.bool neg, .string ds, .int .i64 (sc : Int)]] w fun r w' => r = .returned (.string (wrSs neg ds sc)) ∧ Below w.heap.size w w' := by
  have HU : Hid (Below w.heap.size w (w.alloc (.cells #[.bool neg, .string ds, .int .i64 (sc : Int)] 23)) ∧ Box (w.alloc (.cells #[.bool neg, .string ds, .int .i64 (sc : Int)] 23)) w.heap.size #[.bool neg, .string ds, .int .i64 (sc : Int)]) := ⟨(Below.refl _ _).alloc (Nat.le_refl _) _, Box.new _ _ _⟩
  have hwr : IntKind.i64.wrap ((sc : Int) + 1) = (sc : Int) + 1 := (by rw [IntKind.wrap_i64]; omega)
  have hwr2 : IntKind.i64.wrap ((sc : Int) + 1 - ds.size) = (sc : Int) + 1 - ds.size := (by rw [IntKind.wrap_i64]; omega)
  obtain ⟨R, hR⟩ : ∃ R : ByteArray, (⟨(List.replicate (sc + 1 - ds.size) 48).toArray⟩ : ByteArray) = R := ⟨_, rfl⟩
  have cR : ∀ w, Calls Tryz.prog 38 #[.string ⟨#[48]⟩, .int .i64 ((sc + 1 - ds.size : Nat) : Int)] w fun e w' => e = .returned (.string R) ∧ Below w.heap.size w w' := fun w => by
    have := Tryz.strings_Repeat ⟨#[48]⟩ (sc + 1 - ds.size) w (by omega) (by show 1 * _ ≤ _; omega)
    rw [show (⟨#[48]⟩ : ByteArray).data.toList = [48] from rfl, rep_zero, hR] at this
    exact this
  obtain ⟨V, hVe⟩ : ∃ V, w.alloc (.cells #[.bool neg, .string ds, .int .i64 (sc : Int)] 23) = V := ⟨_, rfl⟩
  have HVe : Hid (w.alloc (.cells #[.bool neg, .string ds, .int .i64 (sc : Int)] 23) = V) := hVe
  rw [hVe] at HU
  have hmx : max 0 ((sc : Int) + 1 - ds.size) = ((sc + 1 - ds.size : Nat) : Int) := by omega
  have l0 := sub_box HU.out.2
  have h1 := sub_of (V := V) cR
  haveI hne : Nonempty (Sub V) := ⟨⟨V, Below.refl _ _⟩⟩
  have hRz : R.size = sc + 1 - ds.size := by rw [← hR]; show (List.toArray _).size = _; simp
  have hsum : ¬ 9223372036854775807 < R.size + ds.size := by omega
  clear hVe
  cases neg
  · go_enter Tryz.func20, Tryz.ntmps20
    go_wp2_with fail
    rw [HVe.out]
    refine wp_region_class (V := V) (Below.refl _ _) (by kernel_rfl) (by kernel_rfl) ?_
    repeat (go_big_quiet_step ((go_at_call 38; exact h1 _)))
    refine wpQuiet_nil ?_
    rintro wc ⟨xwc, hxw⟩
    have HB : Hid (Below w.heap.size w wc ∧ Box wc w.heap.size #[.bool false, .string ds, .int .i64 (sc : Int)]) := by rw [hxw]; exact ⟨below_then HU.out.1 xwc.2, HU.out.2.below xwc.2⟩
    clear hxw xwc h1 l0 hne cR
    obtain ⟨G, hG⟩ : ∃ G, R ++ ds = G := ⟨_, rfl⟩
    rw [hG]
    have HG : Hid (bl G = wrD (bl ds) sc) := by
      unfold Hid wrD
      rw [← hG, bl_append, ← hR, bl_len]
    have hGz : G.size = max (sc + 1) ds.size := by rw [← hG, ByteArray.size_append, hRz]; omega
    have hg1 : sc + 1 ≤ G.size := by omega
    have hg2 : G.size ≤ 140737488355345 := by omega
    clear hG hsum hRz hR hmx hwr hwr2 hGz
    have kc := HB.out.2.cell
    by_cases h0 : sc = 0
    · subst h0
      have hs1 : ¬ 9223372036854775807 < G.size := by omega
      have hs2 : ¬ 9223372036854775807 < 1 + G.size := by omega
      go_wp2_with fail
      go_ret
      exact ⟨ret_str (bl_inj (by first | (rw [bl_append, HG.out]; rfl) | (rw [HG.out]; rfl))), HB.out.1⟩
    · have h0i : ((sc : Int) == 0) = false := by simp; omega
      have p1 : IntKind.i64.wrap ((G.size : Int) - sc) = (G.size : Int) - sc := (by rw [IntKind.wrap_i64]; omega)
      have p2 : (0 : Int) ≤ (G.size : Int) - sc := by omega
      have p3 : (G.size : Int) - sc ≤ G.size := by omega
      have p4 : ((G.size : Int) - sc).toNat = G.size - sc := by omega
      have p5 : ¬ ((G.size : Int) < (G.size : Int) - sc) := by omega
      have p6 : ¬ ((G.size : Int) - sc < 0) := by omega
      obtain ⟨P, hP⟩ : ∃ P, G.extract 0 (G.size - sc) = P := ⟨_, rfl⟩
      obtain ⟨Q, hQ⟩ : ∃ Q, G.extract (G.size - sc) G.size = Q := ⟨_, rfl⟩
      have hPz : P.size ≤ G.size := by rw [← hP]; exact ext_size _ _ _
      have hQz : Q.size ≤ G.size := by rw [← hQ]; exact ext_size _ _ _
      have HS : Hid (wrS false (bl ds) sc = (if false then [45] else []) ++ (bl P ++ 46 :: bl Q)) := by
        unfold Hid wrS
        rw [if_neg h0, ← HG.out, bl_len, ← hP, ← hQ, bl_to, bl_from]
      have s1 : ¬ 9223372036854775807 < P.size := by omega
      have s2 : ¬ 9223372036854775807 < 1 + P.size := by omega
      have s3 : ¬ 9223372036854775807 < P.size + 1 := by omega
      have s4 : ¬ 9223372036854775807 < 1 + P.size + 1 := by omega
      have s5 : ¬ 9223372036854775807 < P.size + 1 + Q.size := by omega
      have s6 : ¬ 9223372036854775807 < 1 + P.size + 1 + Q.size := by omega
      go_wp2_with fail
      go_quiet (fail)
      go_wp2_with fail
      go_ret
      refine ⟨ret_str (bl_inj ?_), below_drewN HB.out.1 _⟩
      show _ = wrS false (bl ds) sc
      rw [HS.out]
      simp only [bl_append]
      simp [bl]
  · go_enter Tryz.func20, Tryz.ntmps20
    go_wp2_with fail
    rw [HVe.out]
    refine wp_region_class (V := V) (Below.refl _ _) (by kernel_rfl) (by kernel_rfl) ?_
    repeat (go_big_quiet_step ((go_at_call 38; exact h1 _)))
    refine wpQuiet_nil ?_
    rintro wc ⟨xwc, hxw⟩
    have HB : Hid (Below w.heap.size w wc ∧ Box wc w.heap.size #[.bool true, .string ds, .int .i64 (sc : Int)]) := by rw [hxw]; exact ⟨below_then HU.out.1 xwc.2, HU.out.2.below xwc.2⟩
    clear hxw xwc h1 l0 hne cR
    obtain ⟨G, hG⟩ : ∃ G, R ++ ds = G := ⟨_, rfl⟩
    rw [hG]
    have HG : Hid (bl G = wrD (bl ds) sc) := by
      unfold Hid wrD
      rw [← hG, bl_append, ← hR, bl_len]
    have hGz : G.size = max (sc + 1) ds.size := by rw [← hG, ByteArray.size_append, hRz]; omega
    have hg1 : sc + 1 ≤ G.size := by omega
    have hg2 : G.size ≤ 140737488355345 := by omega
    clear hG hsum hRz hR hmx hwr hwr2 hGz
    have kc := HB.out.2.cell
    by_cases h0 : sc = 0
    · subst h0
      have hs1 : ¬ 9223372036854775807 < G.size := by omega
      have hs2 : ¬ 9223372036854775807 < 1 + G.size := by omega
      go_wp2_with fail
      go_ret
      exact ⟨ret_str (bl_inj (by first | (rw [bl_append, HG.out]; rfl) | (rw [HG.out]; rfl))), HB.out.1⟩
    · have h0i : ((sc : Int) == 0) = false := by simp; omega
      have p1 : IntKind.i64.wrap ((G.size : Int) - sc) = (G.size : Int) - sc := (by rw [IntKind.wrap_i64]; omega)
      have p2 : (0 : Int) ≤ (G.size : Int) - sc := by omega
      have p3 : (G.size : Int) - sc ≤ G.size := by omega
      have p4 : ((G.size : Int) - sc).toNat = G.size - sc := by omega
      have p5 : ¬ ((G.size : Int) < (G.size : Int) - sc) := by omega
      have p6 : ¬ ((G.size : Int) - sc < 0) := by omega
      obtain ⟨P, hP⟩ : ∃ P, G.extract 0 (G.size - sc) = P := ⟨_, rfl⟩
      obtain ⟨Q, hQ⟩ : ∃ Q, G.extract (G.size - sc) G.size = Q := ⟨_, rfl⟩
      have hPz : P.size ≤ G.size := by rw [← hP]; exact ext_size _ _ _
      have hQz : Q.size ≤ G.size := by rw [← hQ]; exact ext_size _ _ _
      have HS : Hid (wrS true (bl ds) sc = (if true then [45] else []) ++ (bl P ++ 46 :: bl Q)) := by
        unfold Hid wrS
        rw [if_neg h0, ← HG.out, bl_len, ← hP, ← hQ, bl_to, bl_from]
      have s1 : ¬ 9223372036854775807 < P.size := by omega
      have s2 : ¬ 9223372036854775807 < 1 + P.size := by omega
      have s3 : ¬ 9223372036854775807 < P.size + 1 := by omega
      have s4 : ¬ 9223372036854775807 < 1 + P.size + 1 := by omega
      have s5 : ¬ 9223372036854775807 < P.size + 1 + Q.size := by omega
      have s6 : ¬ 9223372036854775807 < 1 + P.size + 1 + Q.size := by omega
      go_wp2_with fail
      go_quiet (fail)
      go_wp2_with fail
      go_ret
      refine ⟨ret_str (bl_inj ?_), below_drewN HB.out.1 _⟩
      show _ = wrS true (bl ds) sc
      rw [HS.out]
      simp only [bl_append]
      simp [bl]
end Go.Proofs.YtnilmmfbliogiaaGreatDoor
