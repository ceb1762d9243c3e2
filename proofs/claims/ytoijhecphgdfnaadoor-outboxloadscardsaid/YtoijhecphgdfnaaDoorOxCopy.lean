/-
  Texts: bytes that lie somewhere, rows of bytes; a message copied.
-/
import Derived.Test.YtoijhecphgdfnaaDoorOxLeaf
import Derived.Lib.SliceRun
namespace Go.Proofs.YtoijhecphgdfnaaDoor
open Go.RowKit

/-- The bytes that a byte string holds. -/
structure Byts (w : World) (po : Option Addr) (n : Nat) (bs : List Int) : Prop where
  len : bs.length = n
  cell : ∀ j, j < n → ∃ b o, po = some ⟨b, o, none⟩ ∧ b < w.heap.size ∧ w.cell? ⟨b, o + j, none⟩ = some (.int .u8 (bs.getD j 0))
theorem Byts.off {P : Nat → Prop} {w w' : World} {po : Option Addr} {n : Nat} {bs : List Int} (h : Byts w po n bs) (ho : Off P w w') (hP : ∀ b o, po = some ⟨b, o, none⟩ → b < w.heap.size → ¬ P b) : Byts w' po n bs :=
  ⟨h.len, fun j hj => by
    obtain ⟨b, o, e, hl, hc⟩ := h.cell j hj
    exact ⟨b, o, e, Nat.lt_of_lt_of_le hl ho.size, by rw [ho.cell (p := ⟨b, o + j, none⟩) hl (hP b o e hl)]; exact hc⟩⟩
theorem Byts.below {w w' : World} {po : Option Addr} {n : Nat} {bs : List Int} (h : Byts w po n bs) (hb : Below w.heap.size w w') : Byts w' po n bs := h.off (P := fun _ => False) (Off.of_below hb) (fun _ _ _ _ => id)
def encB (z : Int) : List Value := [.int .u8 z]
theorem encB_len (z : Int) : (encB z).length = 1 := rfl
theorem encB_one (z : Int) : ∀ u ∈ encB z, u.oneCell' = true := fun u hu => by
  simp only [encB, List.mem_cons, List.not_mem_nil, or_false] at hu; rw [hu]; rfl
theorem celB : Cel Tryd.prog 5 1 1 := cel_of (by kernel_rfl)
theorem flatB (bs : List Int) {j : Nat} {u : Value} (h : (bs.flatMap encB)[j]? = some u) : j < bs.length ∧ u = .int .u8 (bs.getD j 0) := by
  have hj : j < bs.length := by
    have := (List.getElem?_eq_some_iff.1 h).1
    rwa [flat_len encB_len, Nat.mul_one] at this
  refine ⟨hj, ?_⟩
  have := flat_get encB_len bs j bs[j] 0 (List.getElem?_eq_getElem hj) (by decide)
  rw [Nat.mul_one, Nat.add_zero, h] at this
  simp only [encB, List.getElem?_cons_zero, Option.some.injEq] at this
  rw [this, List.getD_eq_getElem?_getD, List.getElem?_eq_getElem hj]
  rfl
/-- A text of one's own. -/
def BRow (w : World) (B : Nat) (v : Value) (bs : List Int) : Prop := ERow w B 5 1 encB v bs
theorem BRow.byts {w : World} {B : Nat} {a : Option Addr} {n c : Nat} {bs : List Int} (h : BRow w B (.slice a n c) bs) : Byts w a n bs := by
  refine ⟨(ERow.len h).symm, fun j hj => ?_⟩
  have hn := ERow.len h
  obtain ⟨g, e, hl, hc⟩ := ERow.at_ encB_len h (List.getElem?_eq_getElem (l := bs) (i := j) (by omega))
  refine ⟨g, 0, e, hl, ?_⟩
  have := hc 0 (by decide)
  rw [Nat.mul_one, Nat.add_zero] at this
  have hjl : j < bs.length := by omega
  rw [Nat.zero_add, this, List.getD_eq_getElem?_getD, List.getElem?_eq_getElem hjl]
  rfl
theorem BRow.nilcap {w : World} {B : Nat} {a : Option Addr} {n c : Nat} {bs : List Int} (h : BRow w B (.slice a n c) bs) : a = none → c = 0 := fun e => by
  rcases ERow.form h with ⟨e1, _⟩ | ⟨g, cap, e1, _⟩
  · simp only [Value.slice.injEq] at e1; exact e1.2.2
  · simp only [Value.slice.injEq] at e1; rw [e1.1] at e; cases e
theorem erow_empty (w : World) (B : Nat) (hB : B ≤ w.heap.size) : BRow (w.alloc (.cells #[] 5)) B (.slice (some ⟨w.heap.size, 0, none⟩) 0 0) [] :=
  ⟨rfl, Or.inr ⟨w.heap.size, 0, #[], rfl, hB, heap_alloc_new _ _, Nat.le_refl _, Nat.zero_le _, rfl, rfl⟩⟩
set_option maxRecDepth 100000 in
set_option maxHeartbeats 1000000 in
theorem clone_any {po : Option Addr} {m c : Nat} {bs : List Int} (w : World) (hb : Byts w po m bs) (hpo : po = none → c = 0) (hm : m ≤ 1000000) :
    Calls Tryd.prog 50 #[.slice po m c] w fun e w' => ∃ a k, e = .returned (.slice a m k) ∧ BRow w' w.heap.size (.slice a m k) bs ∧ Below w.heap.size w w' := by
  have q1 : ∀ (w : World) (a : Option Addr) (n c n' c' : Nat), (binOp .eql 44 (.slice a n c) (.slice none n' c')).run Tryd.prog w = .ok (.bool a.isNone) w := fun w a n c n' c' => Lib.run_eql_slice_nil w 44 5 a n c n' c' Tryd.underlying44
  have hlen := hb.len
  cases po with
  | none =>
    have hm0 : m = 0 := by
      rcases Nat.eq_zero_or_pos m with g | g
      · exact g
      · obtain ⟨_, _, e, _⟩ := hb.cell 0 g; cases e
    subst hm0
    obtain rfl : bs = [] := List.eq_nil_of_length_eq_zero hb.len
    obtain rfl := hpo rfl
    clear hb hpo hlen
    go_enter Tryd.func50, Tryd.ntmps50
    go_wp2_with fail
    go_ret
    exact ⟨none, 0, rfl, ERow.nil _ _ _ _ _, Below.refl _ _⟩
  | some a =>
    have ho : Off (fun _ => False) w (w.alloc (.cells #[] 5)) := (Off.refl _ _).alloc _
    have hbb := hb.off ho (fun _ _ _ _ => id)
    obtain ⟨a', c', w', hr, r1, o1, b1⟩ := run_eapp (P := Tryd.prog) (t := 44) (w := w.alloc (.cells #[] 5)) Tryd.underlying44 celB encB_len encB_one (erow_empty w w.heap.size (Nat.le_refl _)) (ys := bs) (n := m) (a := some a) (c := c) hlen.symm (fun e => by cases e) (fun a1 e1 j u hu => by
      cases e1
      obtain ⟨hj, rfl⟩ := flatB bs hu
      obtain ⟨b, o, e, _, hc⟩ := hbb.cell j (by omega)
      obtain rfl : a = ⟨b, o, none⟩ := by simpa using e
      rw [Addr.add_lit]; exact hc) (by simp; omega) (by omega) (by simp)
    simp only [List.length_nil, Nat.zero_add, hlen, List.nil_append] at hr r1
    have HE : Hid (BRow w' w.heap.size (.slice a' m c') bs ∧ Below w.heap.size w w') := ⟨r1, (ho.below (Nat.le_refl _) (fun _ g => g.elim)).trans (o1.below ho.size (fun k e => by simp [Value.ownBlock] at e; omega))⟩
    clear hb r1 o1 b1 ho hbb hlen
    go_enter Tryd.func50, Tryd.ntmps50
    go_wp2_with (at_builtin; refine wpList_append_run rfl (.tmp 5) (.tmp 6) 44 _ rfl hr ?_)
    go_ret
    exact ⟨a', c', rfl, HE.out.1, HE.out.2⟩
/-- A message with its text elsewhere. -/
abbrev Msg.wi (m : Msg) (a : Option Addr) (c : Nat) : Msg := { m with tp := a, tc := c }
set_option maxRecDepth 100000 in
set_option maxHeartbeats 1000000 in
theorem copied_any (m : Msg) (w : World) (hb : Byts w m.tp m.tn m.tx) (hpo : m.tp = none → m.tc = 0) (hm : m.tn ≤ 1000000) :
    Calls Tryd.prog 34 #[.agg #[.string m.ct, .slice m.tp m.tn m.tc, .bool m.e, .int .i64 m.a, .int .i64 m.p, .int .i64 m.nu, .bool m.nt, .int .i64 m.st, .int .i64 m.lf, .bool m.un]] w fun e w' => ∃ a c, e = .returned (.agg #[.string m.ct, .slice a m.tn c, .bool m.e, .int .i64 m.a, .int .i64 m.p, .int .i64 m.nu, .bool m.nt, .int .i64 m.st, .int .i64 m.lf, .bool m.un]) ∧ BRow w' w.heap.size (.slice a m.tn c) m.tx ∧ Below w.heap.size w w' := by
  have bv : Below w.heap.size w ((w.alloc (.cells #[.string m.ct, .slice m.tp m.tn m.tc, .bool m.e, .int .i64 m.a, .int .i64 m.p, .int .i64 m.nu, .bool m.nt, .int .i64 m.st, .int .i64 m.lf, .bool m.un] 74)).alloc (.cells #[.string ⟨#[]⟩, .slice none 0 0, .bool false, .int .i64 0, .int .i64 0, .int .i64 0, .bool false, .int .i64 0, .int .i64 0, .bool false] 74)) := ((Below.refl _ _).alloc (Nat.le_refl _) _).alloc (by simp) _
  have bx := (Box.new w #[.string m.ct, .slice m.tp m.tn m.tc, .bool m.e, .int .i64 m.a, .int .i64 m.p, .int .i64 m.nu, .bool m.nt, .int .i64 m.st, .int .i64 m.lf, .bool m.un] 74).alloc (.cells #[.string ⟨#[]⟩, .slice none 0 0, .bool false, .int .i64 0, .int .i64 0, .int .i64 0, .bool false, .int .i64 0, .int .i64 0, .bool false] 74)
  have by_ := Box.new (w.alloc (.cells #[.string m.ct, .slice m.tp m.tn m.tc, .bool m.e, .int .i64 m.a, .int .i64 m.p, .int .i64 m.nu, .bool m.nt, .int .i64 m.st, .int .i64 m.lf, .bool m.un] 74)) #[.string ⟨#[]⟩, .slice none 0 0, .bool false, .int .i64 0, .int .i64 0, .int .i64 0, .bool false, .int .i64 0, .int .i64 0, .bool false] 74
  rw [World.size_alloc] at by_
  have hc := clone_any _ (hb.below bv) hpo hm
  have HB0 : Hid (Below w.heap.size w ((w.alloc (.cells #[.string m.ct, .slice m.tp m.tn m.tc, .bool m.e, .int .i64 m.a, .int .i64 m.p, .int .i64 m.nu, .bool m.nt, .int .i64 m.st, .int .i64 m.lf, .bool m.un] 74)).alloc (.cells #[.string ⟨#[]⟩, .slice none 0 0, .bool false, .int .i64 0, .int .i64 0, .int .i64 0, .bool false, .int .i64 0, .int .i64 0, .bool false] 74))) := bv
  clear bv hb hpo hm
  go_enter Tryd.func34, Tryd.ntmps34
  go_wp2_with fail
  obtain ⟨V, hV⟩ : ∃ V, ((w.alloc (.cells #[.string m.ct, .slice m.tp m.tn m.tc, .bool m.e, .int .i64 m.a, .int .i64 m.p, .int .i64 m.nu, .bool m.nt, .int .i64 m.st, .int .i64 m.lf, .bool m.un] 74)).alloc (.cells #[.string ⟨#[]⟩, .slice none 0 0, .bool false, .int .i64 0, .int .i64 0, .int .i64 0, .bool false, .int .i64 0, .int .i64 0, .bool false] 74)) = V := ⟨_, rfl⟩
  rw [hV] at bx by_ hc HB0 ⊢
  have hz : V.heap.size = w.heap.size + 1 + 1 := by rw [← hV]; simp
  have HZ : Hid (V.heap.size = w.heap.size + 1 + 1) := hz
  clear hV hz
  refine hc.mono ?_
  rintro _ w1 ⟨a, c, rfl, hr, hb1⟩
  have HE : Hid (∀ W', Off (fun q => q = w.heap.size ∨ q = w.heap.size + 1) w1 W' → BRow W' w.heap.size (.slice a m.tn c) m.tx ∧ Below w.heap.size w W') := fun W' ho => by
    have hz := HZ.out
    refine ⟨ERow.base (ERow.off hr ho fun g hg hp => ?_) (by omega), (below_then HB0.out hb1).trans (ho.below (Nat.le_trans HB0.out.size hb1.size) fun k hk => by omega)⟩
    have := (ERow.lt hr hg).1
    omega
  have x1 := bx.below hb1
  have y1 := by_.below hb1
  have cx := x1.cell
  have cy := y1.cell
  have fx := x1.free
  have fy := y1.free
  clear hr hb1 hc bx by_ x1 y1
  go_wp2_with fail
  refine bodyPost_ret ?_ rfl ⟨a, c, rfl, HE.out _ ?_⟩
  · simp [results, Tryd.results34, go_sem, cy]
  · iterate 11 (refine Off.setCell ?_ (by first | exact Or.inl rfl | exact Or.inr rfl) _)
    exact Off.refl _ _
end Go.Proofs.YtoijhecphgdfnaaDoor
