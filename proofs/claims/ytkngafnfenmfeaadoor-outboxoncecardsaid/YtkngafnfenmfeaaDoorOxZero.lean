/-
  The law OutboxZero, walked.
-/
import Derived.Test.YtkngafnfenmfeaaDoorOxUn2
namespace Go.Proofs.YtkngafnfenmfeaaDoor
open Go.RowKit

/-- An Op that came in: its eight cells. -/
structure Opv where
  kd : Int
  ct : ByteArray
  tp : Option Addr
  tn : Nat
  tc : Nat
  tx : List Int
  e : Bool
  a : Int
  p : Int
  cd : ByteArray
  n : Int
structure OpAt (w : World) (b o : Nat) (x : Opv) : Prop where
  lt : b < w.heap.size
  c0 : w.cell? ⟨b, o, none⟩ = some (.int .i64 x.kd)
  c1 : w.cell? ⟨b, o + 1, none⟩ = some (.string x.ct)
  c2 : w.cell? ⟨b, o + 2, none⟩ = some (.slice x.tp x.tn x.tc)
  c3 : w.cell? ⟨b, o + 3, none⟩ = some (.bool x.e)
  c4 : w.cell? ⟨b, o + 4, none⟩ = some (.int .i64 x.a)
  c5 : w.cell? ⟨b, o + 5, none⟩ = some (.int .i64 x.p)
  c6 : w.cell? ⟨b, o + 6, none⟩ = some (.string x.cd)
  c7 : w.cell? ⟨b, o + 7, none⟩ = some (.int .i64 x.n)
  p : Byts w x.tp x.tn x.tx
  q : x.tp = none → x.tc = 0
theorem OpAt.below {w w' : World} {b o : Nat} {x : Opv} (h : OpAt w b o x) (hb : Below w.heap.size w w') : OpAt w' b o x := by
  have e : ∀ q, w'.cell? ⟨b, q, none⟩ = w.cell? ⟨b, q, none⟩ := fun q => hb.cell (p := ⟨b, q, none⟩) h.lt
  exact ⟨Nat.lt_of_lt_of_le h.lt hb.size, by rw [e]; exact h.c0, by rw [e]; exact h.c1, by rw [e]; exact h.c2, by rw [e]; exact h.c3, by rw [e]; exact h.c4, by rw [e]; exact h.c5, by rw [e]; exact h.c6, by rw [e]; exact h.c7, h.p.below hb, h.q⟩
/-- Ops that came in, so many cells apart. -/
def Ops (k : Nat) (w : World) (ao : Option Addr) (xs : List Opv) : Prop := ∀ (j : Nat) (x : Opv), xs[j]? = some x → ∃ b off, ao = some ⟨b, off, none⟩ ∧ OpAt w b (off + j * k) x
theorem Ops.below {k : Nat} {w w' : World} {ao : Option Addr} {xs : List Opv} (h : Ops k w ao xs) (hb : Below w.heap.size w w') : Ops k w' ao xs := fun j x hx => by
  obtain ⟨b, off, e, ho⟩ := h j x hx
  exact ⟨b, off, e, ho.below hb⟩
/-- What stands below: the faults as they came, the box. -/
structure Zf (W w : World) (x : Value) (F : List Nat) : Prop where
  bel : Below W.heap.size W w
  un : Un w x
  fl : ∀ z ∈ F, OFault w z 0 3
theorem Zf.below {W w w' : World} {x : Value} {F : List Nat} (h : Zf W w x F) (hb : Below w.heap.size w w') : Zf W w' x F := ⟨below_then h.bel hb, h.un.below hb, fun z hz => (h.fl z hz).below hb⟩
theorem Zf.cons {W w : World} {x : Value} {F : List Nat} {z : Nat} (h : Zf W w x F) (hf : OFault w z 0 3) : Zf W w x (z :: F) := ⟨h.bel, h.un, fun y hy => by
  rcases List.mem_cons.1 hy with rfl | g
  · exact hf
  · exact h.fl y g⟩
theorem Zf.alloc {W w : World} {x : Value} {F : List Nat} (h : Zf W w x F) (o : Obj) : Zf W (w.alloc o) x F := h.below ((Below.refl _ _).alloc (Nat.le_refl _) _)
set_option maxRecDepth 100000 in
set_option maxHeartbeats 8000000 in
theorem zero_law (pl : Bool) (ao : Option Addr) (cap : Nat) (xs : List Opv) (W : World) (ho : Ops 8 W ao xs) (hl : xs.length ≤ 140737488355328) :
    Calls Tryd.prog 4 #[.bool pl, .slice ao xs.length cap] W fun e w' => e = .returned (.bool true) ∧ Below W.heap.size W w' := by
  obtain ⟨n, hn⟩ : ∃ n, xs.length = n := ⟨_, rfl⟩
  have HN : Hid (xs.length = n) := hn
  rw [hn] at hl ⊢
  have HO : Hid (Ops 8 W ao xs) := ho
  have Hz1 : Zf W (W.alloc (.cells #[.pointer none, .bool false, .int .i64 0] 57)) (.pointer (some ⟨W.heap.size, 0, none⟩)) [] := ⟨(Below.refl _ _).alloc (Nat.le_refl _) _, Or.inr ⟨_, rfl, by simp⟩, fun z hz => by cases hz⟩
  have Hz0 : Zf W W (.pointer none) [] := ⟨Below.refl _ _, Or.inl rfl, fun z hz => by cases hz⟩
  obtain ⟨W1, hW1⟩ : ∃ V, W.alloc (.cells #[.pointer none, .bool false, .int .i64 0] 57) = V := ⟨_, rfl⟩
  rw [hW1] at Hz1
  clear ho hn
  cases pl with
  | true =>
    go_enter Tryd.func4, Tryd.ntmps4
    go_wp2_with fail
    clear hW1 Hz0
    obtain ⟨x, hx⟩ : ∃ x, Value.pointer (some ⟨W.heap.size, 0, none⟩) = x := ⟨_, rfl⟩
    rw [hx] at Hz1 ⊢
    have HZ : Hid (Zf W W1 x []) := Hz1
    clear Hz1 hx
    go_loopw [6] (fun ti wx => ∃ k : Nat, k ≤ n ∧ ti = .int .i64 k ∧ Hid (Zf W wx x [])) (fun ti _ => n - (intOf ti).toNat)
    case atStart => exact ⟨0, Nat.zero_le _, rfl, HZ⟩
    case round =>
      obtain ⟨k, hk, rfl, HR⟩ := hrel
      by_cases hlt : k < n
      · have hlt1 : (k : Int) < n := by omega
        obtain ⟨y, hy⟩ : ∃ y, xs[k]? = some y := ⟨_, List.getElem?_eq_getElem (by rw [HN.out]; exact hlt)⟩
        obtain ⟨b, off, rfl, hat⟩ := HO.out k y hy
        have hat := hat.below HR.out.bel
        obtain ⟨lt0, c0, c1, c2, c3, c4, c5, c6, c7, _, _⟩ := hat
        clear hy
        have x1 := Box.new wr #[.int .i64 y.kd, .string y.ct, .slice y.tp y.tn y.tc, .bool y.e, .int .i64 y.a, .int .i64 y.p, .string y.cd, .int .i64 y.n] 38
        have HR1 : Hid (Zf W (wr.alloc (.cells #[.int .i64 y.kd, .string y.ct, .slice y.tp y.tn y.tc, .bool y.e, .int .i64 y.a, .int .i64 y.p, .string y.cd, .int .i64 y.n] 38)) x []) := HR.out.alloc _
        go_wp2_with fail
        obtain ⟨V, hV⟩ : ∃ V, wr.alloc (.cells #[.int .i64 y.kd, .string y.ct, .slice y.tp y.tn y.tc, .bool y.e, .int .i64 y.a, .int .i64 y.p, .string y.cd, .int .i64 y.n] 38) = V := ⟨_, rfl⟩
        rw [hV] at x1 HR1 ⊢
        clear hV c0 c1 c2 c3 c4 c5 c6 c7
        refine (nextC_un HR1.out.un).mono ?_
        rintro _ w1 ⟨rfl, b1⟩
        have HX2 : Hid (Box (w1.alloc (.cells #[.string ⟨#[]⟩, .slice none 0 0, .bool false, .int .i64 0, .int .i64 0, .int .i64 0, .bool false] 46)) wr.heap.size #[.int .i64 y.kd, .string y.ct, .slice y.tp y.tn y.tc, .bool y.e, .int .i64 y.a, .int .i64 y.p, .string y.cd, .int .i64 y.n] ∧ Zf W (w1.alloc (.cells #[.string ⟨#[]⟩, .slice none 0 0, .bool false, .int .i64 0, .int .i64 0, .int .i64 0, .bool false] 46)) x [] ∧ Box (w1.alloc (.cells #[.string ⟨#[]⟩, .slice none 0 0, .bool false, .int .i64 0, .int .i64 0, .int .i64 0, .bool false] 46)) w1.heap.size #[.string ⟨#[]⟩, .slice none 0 0, .bool false, .int .i64 0, .int .i64 0, .int .i64 0, .bool false]) := ⟨(x1.below b1).alloc _, (HR1.out.below b1).alloc _, Box.new _ _ _⟩
        clear b1 x1 HR1
        go_wp2_with fail
        obtain ⟨V2, hV2⟩ : ∃ V, w1.alloc (.cells #[.string ⟨#[]⟩, .slice none 0 0, .bool false, .int .i64 0, .int .i64 0, .int .i64 0, .bool false] 46) = V := ⟨_, rfl⟩
        rw [hV2] at HX2 ⊢
        clear hV2
        obtain ⟨nb, hnb⟩ : ∃ q, w1.heap.size = q := ⟨_, rfl⟩
        rw [hnb] at HX2 ⊢
        clear hnb
        refine (go_un HX2.out.2.1.un).mono ?_
        rintro _ w3 ⟨z3, rfl, _, f3, b3⟩
        have HX3 : Hid (Box w3 wr.heap.size #[.int .i64 y.kd, .string y.ct, .slice y.tp y.tn y.tc, .bool y.e, .int .i64 y.a, .int .i64 y.p, .string y.cd, .int .i64 y.n] ∧ Zf W w3 x [z3] ∧ Box w3 nb #[.string ⟨#[]⟩, .slice none 0 0, .bool false, .int .i64 0, .int .i64 0, .int .i64 0, .bool false]) := ⟨HX2.out.1.below b3, (HX2.out.2.1.below b3).cons f3, HX2.out.2.2.below b3⟩
        clear f3 b3 HX2
        have k3 := HX3.out.1.cell
        go_wp2_with fail
        refine (heard_unx (under_un HX3.out.2.1.un y.ct)).mono ?_
        rintro _ w4 ⟨z4, rfl, _, f4, b4⟩
        have HX4 : Hid (Box w4 wr.heap.size #[.int .i64 y.kd, .string y.ct, .slice y.tp y.tn y.tc, .bool y.e, .int .i64 y.a, .int .i64 y.p, .string y.cd, .int .i64 y.n] ∧ Zf W w4 x [z4, z3] ∧ Box w4 nb #[.string ⟨#[]⟩, .slice none 0 0, .bool false, .int .i64 0, .int .i64 0, .int .i64 0, .bool false]) := ⟨HX3.out.1.below b4, (HX3.out.2.1.below b4).cons f4, HX3.out.2.2.below b4⟩
        clear f4 b4 HX3 k3
        have k4 := HX4.out.1.cell
        go_wp2_with fail
        refine (due_unx (under_un HX4.out.2.1.un y.ct)).mono ?_
        rintro _ w5 ⟨z5, rfl, _, f5, b5⟩
        have HX5 : Hid (Box w5 wr.heap.size #[.int .i64 y.kd, .string y.ct, .slice y.tp y.tn y.tc, .bool y.e, .int .i64 y.a, .int .i64 y.p, .string y.cd, .int .i64 y.n] ∧ Zf W w5 x [z5, z4, z3] ∧ Box w5 nb #[.string ⟨#[]⟩, .slice none 0 0, .bool false, .int .i64 0, .int .i64 0, .int .i64 0, .bool false]) := ⟨HX4.out.1.below b5, (HX4.out.2.1.below b5).cons f5, HX4.out.2.2.below b5⟩
        clear f5 b5 HX4 k4
        have k5 := HX5.out.1.cell
        go_wp2_with fail
        refine (get_un HX5.out.2.1.un y.ct).mono ?_
        rintro _ w6 ⟨z6, rfl, _, f6, b6⟩
        have HX6 : Hid (Box (w6.alloc (.cells #[.string ⟨#[]⟩, .slice none 0 0, .bool false, .int .i64 0, .int .i64 0, .int .i64 0, .bool false, .int .i64 0, .int .i64 0, .bool false] 50)) wr.heap.size #[.int .i64 y.kd, .string y.ct, .slice y.tp y.tn y.tc, .bool y.e, .int .i64 y.a, .int .i64 y.p, .string y.cd, .int .i64 y.n] ∧ Zf W (w6.alloc (.cells #[.string ⟨#[]⟩, .slice none 0 0, .bool false, .int .i64 0, .int .i64 0, .int .i64 0, .bool false, .int .i64 0, .int .i64 0, .bool false] 50)) x [z6, z5, z4, z3] ∧ Box (w6.alloc (.cells #[.string ⟨#[]⟩, .slice none 0 0, .bool false, .int .i64 0, .int .i64 0, .int .i64 0, .bool false, .int .i64 0, .int .i64 0, .bool false] 50)) nb #[.string ⟨#[]⟩, .slice none 0 0, .bool false, .int .i64 0, .int .i64 0, .int .i64 0, .bool false] ∧ Box (w6.alloc (.cells #[.string ⟨#[]⟩, .slice none 0 0, .bool false, .int .i64 0, .int .i64 0, .int .i64 0, .bool false, .int .i64 0, .int .i64 0, .bool false] 50)) w6.heap.size #[.string ⟨#[]⟩, .slice none 0 0, .bool false, .int .i64 0, .int .i64 0, .int .i64 0, .bool false, .int .i64 0, .int .i64 0, .bool false]) := ⟨(HX5.out.1.below b6).alloc _, ((HX5.out.2.1.below b6).cons f6).alloc _, (HX5.out.2.2.below b6).alloc _, Box.new _ _ _⟩
        clear f6 b6 HX5 k5
        go_wp2_with fail
        obtain ⟨V6, hV6⟩ : ∃ V, w6.alloc (.cells #[.string ⟨#[]⟩, .slice none 0 0, .bool false, .int .i64 0, .int .i64 0, .int .i64 0, .bool false, .int .i64 0, .int .i64 0, .bool false] 50) = V := ⟨_, rfl⟩
        rw [hV6] at HX6 ⊢
        clear hV6
        obtain ⟨gb, hgb⟩ : ∃ q, w6.heap.size = q := ⟨_, rfl⟩
        rw [hgb] at HX6 ⊢
        clear hgb
        have r3 := refused_fault (by decide) (HX6.out.2.1.fl z3 (by simp))
        have r4 := refused_fault (by decide) (HX6.out.2.1.fl z4 (by simp))
        have r5 := refused_fault (by decide) (HX6.out.2.1.fl z5 (by simp))
        have r6 := refused_fault (by decide) (HX6.out.2.1.fl z6 (by simp))
        refine r3.mono ?_
        rintro _ w9 ⟨rfl, h9⟩
        subst w9
        go_wp2_with fail
        refine r4.mono ?_
        rintro _ w9 ⟨rfl, h9⟩
        subst w9
        go_wp2_with fail
        refine r5.mono ?_
        rintro _ w9 ⟨rfl, h9⟩
        subst w9
        go_wp2_with fail
        refine r6.mono ?_
        rintro _ w9 ⟨rfl, h9⟩
        subst w9
        clear r3 r4 r5 r6
        have k6 := HX6.out.1.cell
        go_wp2_with fail
        refine (add_un HX6.out.2.1.un _ _ _ _ _ _ _).mono ?_
        rintro _ w7 ⟨z7, rfl, _, f7, b7⟩
        have HX7 : Hid (Box w7 wr.heap.size #[.int .i64 y.kd, .string y.ct, .slice y.tp y.tn y.tc, .bool y.e, .int .i64 y.a, .int .i64 y.p, .string y.cd, .int .i64 y.n] ∧ Zf W w7 x [] ∧ Box w7 nb #[.string ⟨#[]⟩, .slice none 0 0, .bool false, .int .i64 0, .int .i64 0, .int .i64 0, .bool false] ∧ Box w7 gb #[.string ⟨#[]⟩, .slice none 0 0, .bool false, .int .i64 0, .int .i64 0, .int .i64 0, .bool false, .int .i64 0, .int .i64 0, .bool false]) := ⟨HX6.out.1.below b7, ⟨(HX6.out.2.1.below b7).bel, (HX6.out.2.1.below b7).un, fun z hz => by cases hz⟩, HX6.out.2.2.1.below b7, HX6.out.2.2.2.below b7⟩
        have r7 := refused_fault (by decide) f7
        clear f7 b7 HX6 k6
        go_wp2_with fail
        refine r7.mono ?_
        rintro _ w9 ⟨rfl, h9⟩
        subst w9
        clear r7
        have k7 := HX7.out.1.cell
        go_wp2_with fail
        refine (give_un HX7.out.2.1.un _).mono ?_
        rintro _ w8 ⟨z8, rfl, _, f8, b8⟩
        have HX8 : Hid (Zf W w8 x [] ∧ Box w8 nb #[.string ⟨#[]⟩, .slice none 0 0, .bool false, .int .i64 0, .int .i64 0, .int .i64 0, .bool false] ∧ Box w8 gb #[.string ⟨#[]⟩, .slice none 0 0, .bool false, .int .i64 0, .int .i64 0, .int .i64 0, .bool false, .int .i64 0, .int .i64 0, .bool false]) := ⟨HX7.out.2.1.below b8, HX7.out.2.2.1.below b8, HX7.out.2.2.2.below b8⟩
        have r8 := refused_fault (by decide) f8
        clear f8 b8 HX7 k7
        go_wp2_with fail
        refine r8.mono ?_
        rintro _ w9 ⟨rfl, h9⟩
        subst w9
        clear r8
        have k8 := HX8.out.2.1.cell
        have k9 := HX8.out.2.2.cell
        have hz0 : ∀ (z : World) (po po2 : Option Addr) (cc cc2 : Nat), Byts z none 0 [] := fun _ _ _ _ _ => ⟨rfl, fun j hj => by omega⟩
        have so := sameOut_true zM (w := w8) (a := none) (a2 := none) (c := 0) (c2 := 0) ⟨rfl, fun j hj => by simp [zM] at hj⟩ ⟨rfl, fun j hj => by simp [zM] at hj⟩ (by simp [zM])
        have so' : Calls Tryd.prog 20 #[.agg #[.string ⟨#[]⟩, .slice none 0 0, .bool false, .int .i64 0, .int .i64 0, .int .i64 0, .bool false], .agg #[.string ⟨#[]⟩, .slice none 0 0, .bool false, .int .i64 0, .int .i64 0, .int .i64 0, .bool false]] w8 fun e w' => e = .returned (.bool true) ∧ Below w8.heap.size w8 w' := so
        clear so hz0
        go_wp2_with fail
        refine so'.mono ?_
        rintro _ w10 ⟨rfl, b10⟩
        have HXa : Hid (Zf W w10 x [] ∧ Box w10 gb #[.string ⟨#[]⟩, .slice none 0 0, .bool false, .int .i64 0, .int .i64 0, .int .i64 0, .bool false, .int .i64 0, .int .i64 0, .bool false]) := ⟨HX8.out.1.below b10, HX8.out.2.2.below b10⟩
        have ss := sameSent_true zM (w := w10) (a := none) (a2 := none) (c := 0) (c2 := 0) ⟨rfl, fun j hj => by simp [zM] at hj⟩ ⟨rfl, fun j hj => by simp [zM] at hj⟩ (by simp [zM])
        have ss' : Calls Tryd.prog 21 #[.agg #[.string ⟨#[]⟩, .slice none 0 0, .bool false, .int .i64 0, .int .i64 0, .int .i64 0, .bool false, .int .i64 0, .int .i64 0, .bool false], .agg #[.string ⟨#[]⟩, .slice none 0 0, .bool false, .int .i64 0, .int .i64 0, .int .i64 0, .bool false, .int .i64 0, .int .i64 0, .bool false]] w10 fun e w' => e = .returned (.bool true) ∧ Below w10.heap.size w10 w' := ss
        have ka := HXa.out.2.cell
        clear ss so' b10 HX8 k8 k9
        go_wp2_with fail
        refine ss'.mono ?_
        rintro _ w11 ⟨rfl, b11⟩
        have HXb : Hid (Zf W w11 x []) := HXa.out.1.below b11
        clear ss' b11 HXa ka
        go_wp2_with fail
        go_roundw
        case rel => exact ⟨k + 1, hlt, by go_num, HXb⟩
        case measure => simp [intOf]; omega
      · have hlt1 : ¬ (k : Int) < n := by omega
        go_wp2_with fail
        refine (load_li W true 0 wr (by decide) (by decide) HR.out.bel).mono ?_
        rintro _ w1 ⟨mb, mkb, mv, rfl, h1⟩
        have HU1 : Hid (Un w1 x) := HR.out.un.below h1.out.2
        have r1 := list_un HU1.out
        have r2 := len_un HU1.out
        have r3 := len_any h1.out.1.bx
        go_wp2_with fail
        refine r1.mono ?_
        rintro _ w9 ⟨rfl, h9⟩
        subst w9
        go_wp2_with fail
        refine r2.mono ?_
        rintro _ w9 ⟨rfl, h9⟩
        subst w9
        go_wp2_with fail
        refine r3.mono ?_
        rintro _ w9 ⟨rfl, h9⟩
        subst w9
        go_wp2_with fail
        go_ret
        exact ⟨rfl, h1.out.1.bel⟩
  | false =>
    go_enter Tryd.func4, Tryd.ntmps4
    go_wp2_with fail
    clear hW1 Hz1 W1
    obtain ⟨x, hx⟩ : ∃ x, Value.pointer none = x := ⟨_, rfl⟩
    rw [hx] at Hz0 ⊢
    have HZ : Hid (Zf W W x []) := Hz0
    clear hx Hz0
    go_loopw [6] (fun ti wx => ∃ k : Nat, k ≤ n ∧ ti = .int .i64 k ∧ Hid (Zf W wx x [])) (fun ti _ => n - (intOf ti).toNat)
    case atStart => exact ⟨0, Nat.zero_le _, rfl, HZ⟩
    case round =>
      obtain ⟨k, hk, rfl, HR⟩ := hrel
      by_cases hlt : k < n
      · have hlt1 : (k : Int) < n := by omega
        obtain ⟨y, hy⟩ : ∃ y, xs[k]? = some y := ⟨_, List.getElem?_eq_getElem (by rw [HN.out]; exact hlt)⟩
        obtain ⟨b, off, rfl, hat⟩ := HO.out k y hy
        have hat := hat.below HR.out.bel
        obtain ⟨lt0, c0, c1, c2, c3, c4, c5, c6, c7, _, _⟩ := hat
        clear hy
        have x1 := Box.new wr #[.int .i64 y.kd, .string y.ct, .slice y.tp y.tn y.tc, .bool y.e, .int .i64 y.a, .int .i64 y.p, .string y.cd, .int .i64 y.n] 38
        have HR1 : Hid (Zf W (wr.alloc (.cells #[.int .i64 y.kd, .string y.ct, .slice y.tp y.tn y.tc, .bool y.e, .int .i64 y.a, .int .i64 y.p, .string y.cd, .int .i64 y.n] 38)) x []) := HR.out.alloc _
        go_wp2_with fail
        obtain ⟨V, hV⟩ : ∃ V, wr.alloc (.cells #[.int .i64 y.kd, .string y.ct, .slice y.tp y.tn y.tc, .bool y.e, .int .i64 y.a, .int .i64 y.p, .string y.cd, .int .i64 y.n] 38) = V := ⟨_, rfl⟩
        rw [hV] at x1 HR1 ⊢
        clear hV c0 c1 c2 c3 c4 c5 c6 c7
        refine (nextC_un HR1.out.un).mono ?_
        rintro _ w1 ⟨rfl, b1⟩
        have HX2 : Hid (Box (w1.alloc (.cells #[.string ⟨#[]⟩, .slice none 0 0, .bool false, .int .i64 0, .int .i64 0, .int .i64 0, .bool false] 46)) wr.heap.size #[.int .i64 y.kd, .string y.ct, .slice y.tp y.tn y.tc, .bool y.e, .int .i64 y.a, .int .i64 y.p, .string y.cd, .int .i64 y.n] ∧ Zf W (w1.alloc (.cells #[.string ⟨#[]⟩, .slice none 0 0, .bool false, .int .i64 0, .int .i64 0, .int .i64 0, .bool false] 46)) x [] ∧ Box (w1.alloc (.cells #[.string ⟨#[]⟩, .slice none 0 0, .bool false, .int .i64 0, .int .i64 0, .int .i64 0, .bool false] 46)) w1.heap.size #[.string ⟨#[]⟩, .slice none 0 0, .bool false, .int .i64 0, .int .i64 0, .int .i64 0, .bool false]) := ⟨(x1.below b1).alloc _, (HR1.out.below b1).alloc _, Box.new _ _ _⟩
        clear b1 x1 HR1
        go_wp2_with fail
        obtain ⟨V2, hV2⟩ : ∃ V, w1.alloc (.cells #[.string ⟨#[]⟩, .slice none 0 0, .bool false, .int .i64 0, .int .i64 0, .int .i64 0, .bool false] 46) = V := ⟨_, rfl⟩
        rw [hV2] at HX2 ⊢
        clear hV2
        obtain ⟨nb, hnb⟩ : ∃ q, w1.heap.size = q := ⟨_, rfl⟩
        rw [hnb] at HX2 ⊢
        clear hnb
        refine (go_un HX2.out.2.1.un).mono ?_
        rintro _ w3 ⟨z3, rfl, _, f3, b3⟩
        have HX3 : Hid (Box w3 wr.heap.size #[.int .i64 y.kd, .string y.ct, .slice y.tp y.tn y.tc, .bool y.e, .int .i64 y.a, .int .i64 y.p, .string y.cd, .int .i64 y.n] ∧ Zf W w3 x [z3] ∧ Box w3 nb #[.string ⟨#[]⟩, .slice none 0 0, .bool false, .int .i64 0, .int .i64 0, .int .i64 0, .bool false]) := ⟨HX2.out.1.below b3, (HX2.out.2.1.below b3).cons f3, HX2.out.2.2.below b3⟩
        clear f3 b3 HX2
        have k3 := HX3.out.1.cell
        go_wp2_with fail
        refine (heard_unx (under_un HX3.out.2.1.un y.ct)).mono ?_
        rintro _ w4 ⟨z4, rfl, _, f4, b4⟩
        have HX4 : Hid (Box w4 wr.heap.size #[.int .i64 y.kd, .string y.ct, .slice y.tp y.tn y.tc, .bool y.e, .int .i64 y.a, .int .i64 y.p, .string y.cd, .int .i64 y.n] ∧ Zf W w4 x [z4, z3] ∧ Box w4 nb #[.string ⟨#[]⟩, .slice none 0 0, .bool false, .int .i64 0, .int .i64 0, .int .i64 0, .bool false]) := ⟨HX3.out.1.below b4, (HX3.out.2.1.below b4).cons f4, HX3.out.2.2.below b4⟩
        clear f4 b4 HX3 k3
        have k4 := HX4.out.1.cell
        go_wp2_with fail
        refine (due_unx (under_un HX4.out.2.1.un y.ct)).mono ?_
        rintro _ w5 ⟨z5, rfl, _, f5, b5⟩
        have HX5 : Hid (Box w5 wr.heap.size #[.int .i64 y.kd, .string y.ct, .slice y.tp y.tn y.tc, .bool y.e, .int .i64 y.a, .int .i64 y.p, .string y.cd, .int .i64 y.n] ∧ Zf W w5 x [z5, z4, z3] ∧ Box w5 nb #[.string ⟨#[]⟩, .slice none 0 0, .bool false, .int .i64 0, .int .i64 0, .int .i64 0, .bool false]) := ⟨HX4.out.1.below b5, (HX4.out.2.1.below b5).cons f5, HX4.out.2.2.below b5⟩
        clear f5 b5 HX4 k4
        have k5 := HX5.out.1.cell
        go_wp2_with fail
        refine (get_un HX5.out.2.1.un y.ct).mono ?_
        rintro _ w6 ⟨z6, rfl, _, f6, b6⟩
        have HX6 : Hid (Box (w6.alloc (.cells #[.string ⟨#[]⟩, .slice none 0 0, .bool false, .int .i64 0, .int .i64 0, .int .i64 0, .bool false, .int .i64 0, .int .i64 0, .bool false] 50)) wr.heap.size #[.int .i64 y.kd, .string y.ct, .slice y.tp y.tn y.tc, .bool y.e, .int .i64 y.a, .int .i64 y.p, .string y.cd, .int .i64 y.n] ∧ Zf W (w6.alloc (.cells #[.string ⟨#[]⟩, .slice none 0 0, .bool false, .int .i64 0, .int .i64 0, .int .i64 0, .bool false, .int .i64 0, .int .i64 0, .bool false] 50)) x [z6, z5, z4, z3] ∧ Box (w6.alloc (.cells #[.string ⟨#[]⟩, .slice none 0 0, .bool false, .int .i64 0, .int .i64 0, .int .i64 0, .bool false, .int .i64 0, .int .i64 0, .bool false] 50)) nb #[.string ⟨#[]⟩, .slice none 0 0, .bool false, .int .i64 0, .int .i64 0, .int .i64 0, .bool false] ∧ Box (w6.alloc (.cells #[.string ⟨#[]⟩, .slice none 0 0, .bool false, .int .i64 0, .int .i64 0, .int .i64 0, .bool false, .int .i64 0, .int .i64 0, .bool false] 50)) w6.heap.size #[.string ⟨#[]⟩, .slice none 0 0, .bool false, .int .i64 0, .int .i64 0, .int .i64 0, .bool false, .int .i64 0, .int .i64 0, .bool false]) := ⟨(HX5.out.1.below b6).alloc _, ((HX5.out.2.1.below b6).cons f6).alloc _, (HX5.out.2.2.below b6).alloc _, Box.new _ _ _⟩
        clear f6 b6 HX5 k5
        go_wp2_with fail
        obtain ⟨V6, hV6⟩ : ∃ V, w6.alloc (.cells #[.string ⟨#[]⟩, .slice none 0 0, .bool false, .int .i64 0, .int .i64 0, .int .i64 0, .bool false, .int .i64 0, .int .i64 0, .bool false] 50) = V := ⟨_, rfl⟩
        rw [hV6] at HX6 ⊢
        clear hV6
        obtain ⟨gb, hgb⟩ : ∃ q, w6.heap.size = q := ⟨_, rfl⟩
        rw [hgb] at HX6 ⊢
        clear hgb
        have r3 := refused_fault (by decide) (HX6.out.2.1.fl z3 (by simp))
        have r4 := refused_fault (by decide) (HX6.out.2.1.fl z4 (by simp))
        have r5 := refused_fault (by decide) (HX6.out.2.1.fl z5 (by simp))
        have r6 := refused_fault (by decide) (HX6.out.2.1.fl z6 (by simp))
        refine r3.mono ?_
        rintro _ w9 ⟨rfl, h9⟩
        subst w9
        go_wp2_with fail
        refine r4.mono ?_
        rintro _ w9 ⟨rfl, h9⟩
        subst w9
        go_wp2_with fail
        refine r5.mono ?_
        rintro _ w9 ⟨rfl, h9⟩
        subst w9
        go_wp2_with fail
        refine r6.mono ?_
        rintro _ w9 ⟨rfl, h9⟩
        subst w9
        clear r3 r4 r5 r6
        have k6 := HX6.out.1.cell
        go_wp2_with fail
        refine (add_un HX6.out.2.1.un _ _ _ _ _ _ _).mono ?_
        rintro _ w7 ⟨z7, rfl, _, f7, b7⟩
        have HX7 : Hid (Box w7 wr.heap.size #[.int .i64 y.kd, .string y.ct, .slice y.tp y.tn y.tc, .bool y.e, .int .i64 y.a, .int .i64 y.p, .string y.cd, .int .i64 y.n] ∧ Zf W w7 x [] ∧ Box w7 nb #[.string ⟨#[]⟩, .slice none 0 0, .bool false, .int .i64 0, .int .i64 0, .int .i64 0, .bool false] ∧ Box w7 gb #[.string ⟨#[]⟩, .slice none 0 0, .bool false, .int .i64 0, .int .i64 0, .int .i64 0, .bool false, .int .i64 0, .int .i64 0, .bool false]) := ⟨HX6.out.1.below b7, ⟨(HX6.out.2.1.below b7).bel, (HX6.out.2.1.below b7).un, fun z hz => by cases hz⟩, HX6.out.2.2.1.below b7, HX6.out.2.2.2.below b7⟩
        have r7 := refused_fault (by decide) f7
        clear f7 b7 HX6 k6
        go_wp2_with fail
        refine r7.mono ?_
        rintro _ w9 ⟨rfl, h9⟩
        subst w9
        clear r7
        have k7 := HX7.out.1.cell
        go_wp2_with fail
        refine (give_un HX7.out.2.1.un _).mono ?_
        rintro _ w8 ⟨z8, rfl, _, f8, b8⟩
        have HX8 : Hid (Zf W w8 x [] ∧ Box w8 nb #[.string ⟨#[]⟩, .slice none 0 0, .bool false, .int .i64 0, .int .i64 0, .int .i64 0, .bool false] ∧ Box w8 gb #[.string ⟨#[]⟩, .slice none 0 0, .bool false, .int .i64 0, .int .i64 0, .int .i64 0, .bool false, .int .i64 0, .int .i64 0, .bool false]) := ⟨HX7.out.2.1.below b8, HX7.out.2.2.1.below b8, HX7.out.2.2.2.below b8⟩
        have r8 := refused_fault (by decide) f8
        clear f8 b8 HX7 k7
        go_wp2_with fail
        refine r8.mono ?_
        rintro _ w9 ⟨rfl, h9⟩
        subst w9
        clear r8
        have k8 := HX8.out.2.1.cell
        have k9 := HX8.out.2.2.cell
        have hz0 : ∀ (z : World) (po po2 : Option Addr) (cc cc2 : Nat), Byts z none 0 [] := fun _ _ _ _ _ => ⟨rfl, fun j hj => by omega⟩
        have so := sameOut_true zM (w := w8) (a := none) (a2 := none) (c := 0) (c2 := 0) ⟨rfl, fun j hj => by simp [zM] at hj⟩ ⟨rfl, fun j hj => by simp [zM] at hj⟩ (by simp [zM])
        have so' : Calls Tryd.prog 20 #[.agg #[.string ⟨#[]⟩, .slice none 0 0, .bool false, .int .i64 0, .int .i64 0, .int .i64 0, .bool false], .agg #[.string ⟨#[]⟩, .slice none 0 0, .bool false, .int .i64 0, .int .i64 0, .int .i64 0, .bool false]] w8 fun e w' => e = .returned (.bool true) ∧ Below w8.heap.size w8 w' := so
        clear so hz0
        go_wp2_with fail
        refine so'.mono ?_
        rintro _ w10 ⟨rfl, b10⟩
        have HXa : Hid (Zf W w10 x [] ∧ Box w10 gb #[.string ⟨#[]⟩, .slice none 0 0, .bool false, .int .i64 0, .int .i64 0, .int .i64 0, .bool false, .int .i64 0, .int .i64 0, .bool false]) := ⟨HX8.out.1.below b10, HX8.out.2.2.below b10⟩
        have ss := sameSent_true zM (w := w10) (a := none) (a2 := none) (c := 0) (c2 := 0) ⟨rfl, fun j hj => by simp [zM] at hj⟩ ⟨rfl, fun j hj => by simp [zM] at hj⟩ (by simp [zM])
        have ss' : Calls Tryd.prog 21 #[.agg #[.string ⟨#[]⟩, .slice none 0 0, .bool false, .int .i64 0, .int .i64 0, .int .i64 0, .bool false, .int .i64 0, .int .i64 0, .bool false], .agg #[.string ⟨#[]⟩, .slice none 0 0, .bool false, .int .i64 0, .int .i64 0, .int .i64 0, .bool false, .int .i64 0, .int .i64 0, .bool false]] w10 fun e w' => e = .returned (.bool true) ∧ Below w10.heap.size w10 w' := ss
        have ka := HXa.out.2.cell
        clear ss so' b10 HX8 k8 k9
        go_wp2_with fail
        refine ss'.mono ?_
        rintro _ w11 ⟨rfl, b11⟩
        have HXb : Hid (Zf W w11 x []) := HXa.out.1.below b11
        clear ss' b11 HXa ka
        go_wp2_with fail
        go_roundw
        case rel => exact ⟨k + 1, hlt, by go_num, HXb⟩
        case measure => simp [intOf]; omega
      · have hlt1 : ¬ (k : Int) < n := by omega
        go_wp2_with fail
        refine (load_li W true 0 wr (by decide) (by decide) HR.out.bel).mono ?_
        rintro _ w1 ⟨mb, mkb, mv, rfl, h1⟩
        have HU1 : Hid (Un w1 x) := HR.out.un.below h1.out.2
        have r1 := list_un HU1.out
        have r2 := len_un HU1.out
        have r3 := len_any h1.out.1.bx
        go_wp2_with fail
        refine r1.mono ?_
        rintro _ w9 ⟨rfl, h9⟩
        subst w9
        go_wp2_with fail
        refine r2.mono ?_
        rintro _ w9 ⟨rfl, h9⟩
        subst w9
        go_wp2_with fail
        refine r3.mono ?_
        rintro _ w9 ⟨rfl, h9⟩
        subst w9
        go_wp2_with fail
        go_ret
        exact ⟨rfl, h1.out.1.bel⟩
end Go.Proofs.YtkngafnfenmfeaaDoor
