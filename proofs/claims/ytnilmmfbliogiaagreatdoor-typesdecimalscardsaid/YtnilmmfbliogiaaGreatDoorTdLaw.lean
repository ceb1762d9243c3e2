/-
  The law: both sides answer the same.
-/
import Derived.Test.YtnilmmfbliogiaaGreatDoorTdRCmp2
namespace Go.Proofs.YtnilmmfbliogiaaGreatDoor
open Go.RowKit

theorem errType_then {w x : World} (h : ErrType w) (hb : Below w.heap.size w x) : ErrType x := errType_below h hb
/-- What the law keeps from call to call. -/
structure LwS (w : World) (na : Bool) (da : ByteArray) (sa : Int) (nb : Bool) (db : ByteArray) (sb : Int) (bn br : Nat) (n1 : Bool) (n2 : List UInt8) (n3 : Nat) (x : World) : Prop where
  nb : NB2 w na da sa nb db sb x
  er : ErrType x
  bn : Box x bn #[.bool n1, .string ⟨n2.toArray⟩, .int .i64 (n3 : Int)]
  br : Box x br #[.bool n1, .string ⟨n2.toArray⟩, .int .i64 (n3 : Int)]
theorem LwS.below {w : World} {na : Bool} {da : ByteArray} {sa : Int} {nb : Bool} {db : ByteArray} {sb : Int} {bn br : Nat} {n1 : Bool} {n2 : List UInt8} {n3 : Nat} {x y : World} (h : LwS w na da sa nb db sb bn br n1 n2 n3 x) (hb : Below x.heap.size x y) : LwS w na da sa nb db sb bn br n1 n2 n3 y := ⟨h.nb.below hb, errType_then h.er hb, h.bn.below hb, h.br.below hb⟩
set_option maxRecDepth 100000 in
set_option maxHeartbeats 4000000 in
theorem decimals_law (s : ByteArray) (na : Bool) (da : ByteArray) (sa : Int) (nb : Bool) (db : ByteArray) (sb : Int) (w : World) (hs : s.size ≤ 140737488351232) (hza : da.size ≤ 140737488351232) (hzb : db.size ≤ 140737488351232) (hE : ErrType w) :
    Calls Tryz.prog 3 #[.string s, .agg #[.bool na, .string da, .int .i64 sa], .agg #[.bool nb, .string db, .int .i64 sb]] w fun r w' => r = .returned (.bool true) ∧ Below w.heap.size w w' := by
  have HE : Hid (ErrType w) := hE
  clear hE
  have c1 := fun w => Decimal_any s w (by omega)
  have c2 := fun w => rDecimal_any s w
  have c3 := fun w => Print_any na da sa w hza
  have c4 := fun w => rPrint_any na da sa w hza
  have c5 := fun w => Compare_any na da sa nb db sb w hza hzb
  have c6 := fun w => rCompare_any na da sa nb db sb w hza hzb
  have HU : Hid (NB2 w na da sa nb db sb ((w.alloc (.cells #[.bool na, .string da, .int .i64 sa] 23)).alloc (.cells #[.bool nb, .string db, .int .i64 sb] 23))) := NB2.new w na da sa nb db sb
  obtain ⟨X, hX⟩ : ∃ X, dN (bl s) = X := ⟨_, rfl⟩
  obtain ⟨n1, n2, n3⟩ := X
  go_enter Tryz.func3, Tryz.ntmps3
  go_wp2_with fail
  refine (c1 _).mono ?_
  rintro _ w1 ⟨e, rfl, he, hb⟩
  rw [hX]
  have H1 : Hid (NB2 w na da sa nb db sb w1 ∧ ErrType w1 ∧ TEv w1 e 0 (dE (bl s))) := ⟨HU.out.below hb, errType_then (errType_alloc (errType_alloc HE.out _) _) hb, he⟩
  clear hb he
  go_wp2_with fail
  refine (c2 _).mono ?_
  rintro _ w2 ⟨no, rfl, hno, hb⟩
  rw [hX]
  have hb' : Below w1.heap.size w1 w2 := below_then ((Below.refl _ _).alloc (Nat.le_refl _) _) hb
  have H2 : Hid (NB2 w na da sa nb db sb w2 ∧ ErrType w2 ∧ TEv w2 e 0 (dE (bl s)) ∧ TNo w2 no 0 (dE (bl s)) ∧ Box w2 w1.heap.size #[.bool n1, .string ⟨n2.toArray⟩, .int .i64 (n3 : Int)]) := ⟨H1.out.1.below hb', errType_then H1.out.2.1 hb', H1.out.2.2.below hb', hno, (Box.new _ _ _).below hb⟩
  clear hb hb' hno
  have H2' : Hid (LwS w na da sa nb db sb w1.heap.size w2.heap.size n1 n2 n3 (w2.alloc (.cells #[.bool n1, .string ⟨n2.toArray⟩, .int .i64 (n3 : Int)] 23)) ∧ TEv (w2.alloc (.cells #[.bool n1, .string ⟨n2.toArray⟩, .int .i64 (n3 : Int)] 23)) e 0 (dE (bl s)) ∧ TNo (w2.alloc (.cells #[.bool n1, .string ⟨n2.toArray⟩, .int .i64 (n3 : Int)] 23)) no 0 (dE (bl s))) := by
    have ha : Below w2.heap.size w2 (w2.alloc (.cells #[.bool n1, .string ⟨n2.toArray⟩, .int .i64 (n3 : Int)] 23)) := (Below.refl _ _).alloc (Nat.le_refl _) _
    exact ⟨⟨H2.out.1.below ha, errType_then H2.out.2.1 ha, H2.out.2.2.2.2.below ha, Box.new _ _ _⟩, H2.out.2.2.1.below ha, H2.out.2.2.2.1.below ha⟩
  have ka := H2'.out.1.nb.2.1.cell
  have kb := H2'.out.1.nb.2.2.cell
  go_wp2_with fail
  refine (c3 _).mono ?_
  rintro _ w3 ⟨f, rfl, hf, hb⟩
  have H3 : Hid (LwS w na da sa nb db sb w1.heap.size w2.heap.size n1 n2 n3 w3 ∧ TEv w3 e 0 (dE (bl s)) ∧ TNo w3 no 0 (dE (bl s)) ∧ TEv w3 f 0 (prE na da sa)) := ⟨H2'.out.1.below hb, H2'.out.2.1.below hb, H2'.out.2.2.below hb, hf⟩
  clear hb hf ka kb
  have ka := H3.out.1.nb.2.1.cell
  go_wp2_with fail
  refine (c4 _).mono ?_
  rintro _ w4 ⟨nf, rfl, hnf, hb⟩
  have H4 : Hid (LwS w na da sa nb db sb w1.heap.size w2.heap.size n1 n2 n3 w4 ∧ TEv w4 e 0 (dE (bl s)) ∧ TNo w4 no 0 (dE (bl s)) ∧ TEv w4 f 0 (prE na da sa) ∧ TNo w4 nf 0 (prE na da sa)) := ⟨H3.out.1.below hb, H3.out.2.1.below hb, H3.out.2.2.1.below hb, H3.out.2.2.2.below hb, hnf⟩
  clear hb hnf ka
  have ka := H4.out.1.nb.2.1.cell
  have kb := H4.out.1.nb.2.2.cell
  go_wp2_with fail
  refine (c5 _).mono ?_
  rintro _ w5 ⟨g, rfl, hg, hb⟩
  have H5 : Hid (LwS w na da sa nb db sb w1.heap.size w2.heap.size n1 n2 n3 w5 ∧ TEv w5 e 0 (dE (bl s)) ∧ TNo w5 no 0 (dE (bl s)) ∧ TEv w5 f 0 (prE na da sa) ∧ TNo w5 nf 0 (prE na da sa) ∧ TEv w5 g (cpA na da sa) (cpE na da sa nb db sb)) := ⟨H4.out.1.below hb, H4.out.2.1.below hb, H4.out.2.2.1.below hb, H4.out.2.2.2.1.below hb, H4.out.2.2.2.2.below hb, hg⟩
  clear hb hg ka kb
  have ka := H5.out.1.nb.2.1.cell
  have kb := H5.out.1.nb.2.2.cell
  go_wp2_with fail
  refine (c6 _).mono ?_
  rintro _ w6 ⟨ng, rfl, hng, hb⟩
  have H6 : Hid (LwS w na da sa nb db sb w1.heap.size w2.heap.size n1 n2 n3 w6 ∧ TEv w6 e 0 (dE (bl s)) ∧ TNo w6 no 0 (dE (bl s)) ∧ TEv w6 f 0 (prE na da sa) ∧ TNo w6 nf 0 (prE na da sa) ∧ TEv w6 g (cpA na da sa) (cpE na da sa nb db sb) ∧ TNo w6 ng (cpA na da sa) (cpE na da sa nb db sb)) := ⟨H5.out.1.below hb, H5.out.2.1.below hb, H5.out.2.2.1.below hb, H5.out.2.2.2.1.below hb, H5.out.2.2.2.2.1.below hb, H5.out.2.2.2.2.2.below hb, hng⟩
  clear hb hng ka kb
  have kn := H6.out.1.bn.cell
  have kr := H6.out.1.br.cell
  have kp := H6.out.1.nb.2.1.cell
  go_wp2_with fail
  refine (refused_any H6.out.1.er H6.out.2.1 H6.out.2.2.1).mono ?_
  rintro _ w7 ⟨rfl, hb⟩
  have H7 : Hid (LwS w na da sa nb db sb w1.heap.size w2.heap.size n1 n2 n3 w7 ∧ TEv w7 f 0 (prE na da sa) ∧ TNo w7 nf 0 (prE na da sa) ∧ TEv w7 g (cpA na da sa) (cpE na da sa nb db sb) ∧ TNo w7 ng (cpA na da sa) (cpE na da sa nb db sb)) := ⟨H6.out.1.below hb, H6.out.2.2.2.1.below hb, H6.out.2.2.2.2.1.below hb, H6.out.2.2.2.2.2.1.below hb, H6.out.2.2.2.2.2.2.below hb⟩
  clear hb kn kr kp
  go_wp2_with fail
  refine (refused_any H7.out.1.er H7.out.2.1 H7.out.2.2.1).mono ?_
  rintro _ w8 ⟨rfl, hb⟩
  have H8 : Hid (LwS w na da sa nb db sb w1.heap.size w2.heap.size n1 n2 n3 w8 ∧ TEv w8 g (cpA na da sa) (cpE na da sa nb db sb) ∧ TNo w8 ng (cpA na da sa) (cpE na da sa nb db sb)) := ⟨H7.out.1.below hb, H7.out.2.2.2.1.below hb, H7.out.2.2.2.2.below hb⟩
  clear hb
  go_wp2_with fail
  refine (refused_any H8.out.1.er H8.out.2.1 H8.out.2.2).mono ?_
  rintro _ w9 ⟨rfl, hb⟩
  have H9 : Hid (Below w.heap.size w w9) := below_then H8.out.1.nb.1 hb
  clear hb
  go_wp2_with fail
  go_ret
  exact ⟨rfl, H9.out⟩
end Go.Proofs.YtnilmmfbliogiaaGreatDoor
