/-
  The law's twinRecord.
-/
import Derived.Test.YtdjjologpodnkaaGreatDoorLgREnc2
namespace Go.Proofs.YtdjjologpodnkaaGreatDoor
open Go.RowKit

abbrev zRC : Array Value := #[.int .i64 0, .string ⟨#[]⟩, .slice none 0 0, .bool false, .int .i64 0, .int .i64 0, .int .i64 0, .int .i64 0, .int .i64 0, .string ⟨#[]⟩, .slice none 0 0, .slice none 0 0]
/-- An empty slice made, bytes appended: the copy, and what it leaves. -/
theorem copy_step {W : World} {po : Option Addr} {n c : Nat} {bs : List Int} (h : Byts W po n bs) (hn : n ≤ 140737488355328) :
    ∃ a' c' W', (Builtin.append_ #[22, 22] 22 #[.slice (some ⟨W.heap.size, 0, none⟩) 0 0, .slice po n c]).run Tryz.prog (W.alloc (.cells #[] 5)) = .ok (.slice a' n c') W' ∧ Hid (BRow W' W.heap.size (.slice a' n c') bs ∧ Below W.heap.size W W') := by
  have b1 := (Below.refl W.heap.size W).alloc (Nat.le_refl _) (.cells #[] 5)
  have h0 : BRow (W.alloc (.cells #[] 5)) W.heap.size (.slice (some ⟨W.heap.size, 0, none⟩) 0 0) [] := ⟨rfl, Or.inr ⟨W.heap.size, 0, #[], rfl, Nat.le_refl _, heap_alloc_new _ _, Nat.le_refl _, Nat.zero_le _, rfl, rfl⟩⟩
  obtain ⟨a', c', W', hr, r1, o1⟩ := run_bapp (c := c) h0 (h.below b1) hn b1.size
  exact ⟨a', c', W', hr, r1, b1.trans (o1.below b1.size fun q hq => by simp [Value.ownBlock] at hq; omega)⟩
/-- The copy of a record. -/
structure TwinQ (r : Rec) (w : World) (a1 : Option Addr) (c1 : Nat) (a2 : Option Addr) (c2 : Nat) (a3 : Option Addr) (c3 : Nat) (w' : World) : Prop where
  t : BRow w' w.heap.size (.slice a1 r.tn c1) r.tx
  c : BRow w' w.heap.size (.slice a2 r.cn c2) r.cx
  a : BRow w' w.heap.size (.slice a3 r.an c3) r.ax
  b : Below w.heap.size w w'
/-- In the midst of the copy: the box of the record, the place of the answer. -/
structure TwS (w X : World) (cs : Array Value) : Prop where
  x : Box X w.heap.size cs
  z : Box X (w.heap.size + 1) zRC
  b : Below w.heap.size w X
theorem TwS.below {w X Y : World} {cs : Array Value} (h : TwS w X cs) (hb : Below X.heap.size X Y) : TwS w Y cs := ⟨h.x.below hb, h.z.below hb, below_then h.b hb⟩
theorem TwS.put {w X : World} {cs ds : Array Value} (h : TwS w X cs) {j : Nat} (hj : j < cs.size) (v : Value) (hd : cs.set! j v = ds) : TwS w (X.setCell ⟨w.heap.size, j, none⟩ v) ds :=
  ⟨by rw [← hd]; exact h.x.pPut hj v, h.z.pOff (by simp) v, h.b.setCell (Nat.le_refl _) v⟩
theorem TwS.row {w X : World} {cs : Array Value} (_h : TwS w X cs) (j : Nat) (v : Value) {u : Value} {bs : List Int} (hr : BRow X (w.heap.size + 1 + 1) u bs) : BRow (X.setCell ⟨w.heap.size, j, none⟩ v) (w.heap.size + 1 + 1) u bs :=
  ERow.off hr (Off.setCell (P := fun q => q = w.heap.size) (Off.refl _ X) rfl v) fun q hq e => by have := (BRow.own hr hq).1; omega
theorem TwS.size {w X : World} {cs : Array Value} (h : TwS w X cs) : w.heap.size + 1 + 1 ≤ X.heap.size := h.z.lt
set_option maxRecDepth 100000 in
set_option maxHeartbeats 4000000 in
theorem twin_any (r : Rec) (w : World) (hl : LieR w r) (h1 : r.tn ≤ 140737488355328) (h2 : r.cn ≤ 140737488355328) (h3 : r.an ≤ 140737488355328) :
    Calls Tryz.prog 5 #[.agg #[.int .i64 r.kd, .string r.ct, .slice r.tp r.tn r.tc, .bool r.e, .int .i64 r.a, .int .i64 r.p, .int .i64 r.nu, .int .i64 r.tk, .int .i64 r.st, .string r.cd, .slice r.cp r.cn r.cc, .slice r.ap r.an r.ac]] w fun e w' => ∃ a1 c1 a2 c2 a3 c3, e = .returned (.agg #[.int .i64 r.kd, .string r.ct, .slice a1 r.tn c1, .bool r.e, .int .i64 r.a, .int .i64 r.p, .int .i64 r.nu, .int .i64 r.tk, .int .i64 r.st, .string r.cd, .slice a2 r.cn c2, .slice a3 r.an c3]) ∧ TwinQ r w a1 c1 a2 c2 a3 c3 w' := by
  have bv := ((Below.refl w.heap.size w).alloc (Nat.le_refl _) (.cells (#[.int .i64 r.kd, .string r.ct, .slice r.tp r.tn r.tc, .bool r.e, .int .i64 r.a, .int .i64 r.p, .int .i64 r.nu, .int .i64 r.tk, .int .i64 r.st, .string r.cd, .slice r.cp r.cn r.cc, .slice r.ap r.an r.ac]) 26)).alloc (by simp) (.cells zRC 26)
  have bx := (Box.new w (#[.int .i64 r.kd, .string r.ct, .slice r.tp r.tn r.tc, .bool r.e, .int .i64 r.a, .int .i64 r.p, .int .i64 r.nu, .int .i64 r.tk, .int .i64 r.st, .string r.cd, .slice r.cp r.cn r.cc, .slice r.ap r.an r.ac]) 26).alloc (.cells zRC 26)
  have by_ := Box.new (w.alloc (.cells (#[.int .i64 r.kd, .string r.ct, .slice r.tp r.tn r.tc, .bool r.e, .int .i64 r.a, .int .i64 r.p, .int .i64 r.nu, .int .i64 r.tk, .int .i64 r.st, .string r.cd, .slice r.cp r.cn r.cc, .slice r.ap r.an r.ac]) 26)) zRC 26
  rw [World.size_alloc] at by_
  have HL : Hid (LieR w r ∧ r.cn ≤ 140737488355328 ∧ r.an ≤ 140737488355328) := ⟨hl, h2, h3⟩
  have HS0 : Hid (TwS w ((w.alloc (.cells (#[.int .i64 r.kd, .string r.ct, .slice r.tp r.tn r.tc, .bool r.e, .int .i64 r.a, .int .i64 r.p, .int .i64 r.nu, .int .i64 r.tk, .int .i64 r.st, .string r.cd, .slice r.cp r.cn r.cc, .slice r.ap r.an r.ac]) 26)).alloc (.cells zRC 26)) #[.int .i64 r.kd, .string r.ct, .slice r.tp r.tn r.tc, .bool r.e, .int .i64 r.a, .int .i64 r.p, .int .i64 r.nu, .int .i64 r.tk, .int .i64 r.st, .string r.cd, .slice r.cp r.cn r.cc, .slice r.ap r.an r.ac]) := ⟨bx, by_, bv⟩
  obtain ⟨a1, c1, W1, hr1, H1⟩ := copy_step (c := r.tc) (HL.out.1.below HS0.out.b).t h1
  simp only [World.size_alloc] at hr1
  have HS1' : Hid (TwS w W1 #[.int .i64 r.kd, .string r.ct, .slice r.tp r.tn r.tc, .bool r.e, .int .i64 r.a, .int .i64 r.p, .int .i64 r.nu, .int .i64 r.tk, .int .i64 r.st, .string r.cd, .slice r.cp r.cn r.cc, .slice r.ap r.an r.ac]) := HS0.out.below H1.out.2
  have HT1' : Hid (BRow W1 (w.heap.size + 1 + 1) (.slice a1 r.tn c1) r.tx) := by have := H1.out.1; simp only [World.size_alloc] at this; exact this
  have cx1 := HS1'.out.x.cell
  have fx1 := HS1'.out.x.free
  clear bv bx by_ hl h1 h2 h3 H1 HS0
  go_enter Tryz.func5, Tryz.ntmps5
  go_upto_region 2 with (at_builtin; refine wpList_append_run rfl (.tmp 3) (.tmp 5) 22 _ rfl hr1 ?_)
  have HS1 : Hid (TwS w (W1.setCell ⟨w.heap.size, 2, none⟩ (.slice a1 r.tn c1)) #[.int .i64 r.kd, .string r.ct, .slice a1 r.tn c1, .bool r.e, .int .i64 r.a, .int .i64 r.p, .int .i64 r.nu, .int .i64 r.tk, .int .i64 r.st, .string r.cd, .slice r.cp r.cn r.cc, .slice r.ap r.an r.ac]) := HS1'.out.put (by simp) _ rfl
  have HT1 : Hid (BRow (W1.setCell ⟨w.heap.size, 2, none⟩ (.slice a1 r.tn c1)) (w.heap.size + 1 + 1) (.slice a1 r.tn c1) r.tx) := HS1'.out.row 2 _ HT1'.out
  generalize W1.setCell ⟨w.heap.size, 2, none⟩ (.slice a1 r.tn c1) = X1 at HS1 HT1 ⊢
  have dx1 := HS1.out.x.cell
  clear hr1 HS1' HT1' cx1 fx1
  obtain ⟨a2, c2, W2, hr2, H2⟩ := copy_step (c := r.cc) (HL.out.1.below HS1.out.b).c HL.out.2.1
  have HS2' : Hid (TwS w W2 #[.int .i64 r.kd, .string r.ct, .slice a1 r.tn c1, .bool r.e, .int .i64 r.a, .int .i64 r.p, .int .i64 r.nu, .int .i64 r.tk, .int .i64 r.st, .string r.cd, .slice r.cp r.cn r.cc, .slice r.ap r.an r.ac]) := HS1.out.below H2.out.2
  have HT2' : Hid (BRow W2 (w.heap.size + 1 + 1) (.slice a1 r.tn c1) r.tx ∧ BRow W2 (w.heap.size + 1 + 1) (.slice a2 r.cn c2) r.cx) := ⟨ERow.below HT1.out H2.out.2, ERow.base H2.out.1 HS1.out.size⟩
  have dd1 : ∀ o, (X1.alloc (.cells #[] 5)).cell? ⟨w.heap.size, o, none⟩ = (#[.int .i64 r.kd, .string r.ct, .slice a1 r.tn c1, .bool r.e, .int .i64 r.a, .int .i64 r.p, .int .i64 r.nu, .int .i64 r.tk, .int .i64 r.st, .string r.cd, .slice r.cp r.cn r.cc, .slice r.ap r.an r.ac] : Array Value)[o]? := (HS1.out.x.alloc _).cell
  have cx2 := HS2'.out.x.cell
  have fx2 := HS2'.out.x.free
  clear H2
  go_upto_region 3 with (at_builtin; refine wpList_append_run rfl (.tmp 8) (.tmp 10) 22 _ rfl hr2 ?_)
  have HS2 : Hid (TwS w (W2.setCell ⟨w.heap.size, 10, none⟩ (.slice a2 r.cn c2)) #[.int .i64 r.kd, .string r.ct, .slice a1 r.tn c1, .bool r.e, .int .i64 r.a, .int .i64 r.p, .int .i64 r.nu, .int .i64 r.tk, .int .i64 r.st, .string r.cd, .slice a2 r.cn c2, .slice r.ap r.an r.ac]) := HS2'.out.put (by simp) _ rfl
  have HT2 : Hid (BRow (W2.setCell ⟨w.heap.size, 10, none⟩ (.slice a2 r.cn c2)) (w.heap.size + 1 + 1) (.slice a1 r.tn c1) r.tx ∧ BRow (W2.setCell ⟨w.heap.size, 10, none⟩ (.slice a2 r.cn c2)) (w.heap.size + 1 + 1) (.slice a2 r.cn c2) r.cx) := ⟨HS2'.out.row 10 _ HT2'.out.1, HS2'.out.row 10 _ HT2'.out.2⟩
  generalize W2.setCell ⟨w.heap.size, 10, none⟩ (.slice a2 r.cn c2) = X2 at HS2 HT2 ⊢
  clear hr2 HS2' HT2' cx2 fx2 dx1 dd1 HS1 HT1
  have dx2 := HS2.out.x.cell
  obtain ⟨a3, c3, W3, hr3, H3⟩ := copy_step (c := r.ac) (HL.out.1.below HS2.out.b).a HL.out.2.2
  have HS3' : Hid (TwS w W3 #[.int .i64 r.kd, .string r.ct, .slice a1 r.tn c1, .bool r.e, .int .i64 r.a, .int .i64 r.p, .int .i64 r.nu, .int .i64 r.tk, .int .i64 r.st, .string r.cd, .slice a2 r.cn c2, .slice r.ap r.an r.ac]) := HS2.out.below H3.out.2
  have HT3' : Hid (BRow W3 (w.heap.size + 1 + 1) (.slice a1 r.tn c1) r.tx ∧ BRow W3 (w.heap.size + 1 + 1) (.slice a2 r.cn c2) r.cx ∧ BRow W3 (w.heap.size + 1 + 1) (.slice a3 r.an c3) r.ax) := ⟨ERow.below HT2.out.1 H3.out.2, ERow.below HT2.out.2 H3.out.2, ERow.base H3.out.1 HS2.out.size⟩
  have dd2 : ∀ o, (X2.alloc (.cells #[] 5)).cell? ⟨w.heap.size, o, none⟩ = (#[.int .i64 r.kd, .string r.ct, .slice a1 r.tn c1, .bool r.e, .int .i64 r.a, .int .i64 r.p, .int .i64 r.nu, .int .i64 r.tk, .int .i64 r.st, .string r.cd, .slice a2 r.cn c2, .slice r.ap r.an r.ac] : Array Value)[o]? := (HS2.out.x.alloc _).cell
  have cx3 := HS3'.out.x.cell
  have fx3 := HS3'.out.x.free
  clear H3
  go_upto_region 4 with (at_builtin; refine wpList_append_run rfl (.tmp 13) (.tmp 15) 22 _ rfl hr3 ?_)
  have HS3 : Hid (TwS w (W3.setCell ⟨w.heap.size, 11, none⟩ (.slice a3 r.an c3)) #[.int .i64 r.kd, .string r.ct, .slice a1 r.tn c1, .bool r.e, .int .i64 r.a, .int .i64 r.p, .int .i64 r.nu, .int .i64 r.tk, .int .i64 r.st, .string r.cd, .slice a2 r.cn c2, .slice a3 r.an c3]) := HS3'.out.put (by simp) _ rfl
  have HT3 : Hid (BRow (W3.setCell ⟨w.heap.size, 11, none⟩ (.slice a3 r.an c3)) (w.heap.size + 1 + 1) (.slice a1 r.tn c1) r.tx ∧ BRow (W3.setCell ⟨w.heap.size, 11, none⟩ (.slice a3 r.an c3)) (w.heap.size + 1 + 1) (.slice a2 r.cn c2) r.cx ∧ BRow (W3.setCell ⟨w.heap.size, 11, none⟩ (.slice a3 r.an c3)) (w.heap.size + 1 + 1) (.slice a3 r.an c3) r.ax) := ⟨HS3'.out.row 11 _ HT3'.out.1, HS3'.out.row 11 _ HT3'.out.2.1, HS3'.out.row 11 _ HT3'.out.2.2⟩
  generalize W3.setCell ⟨w.heap.size, 11, none⟩ (.slice a3 r.an c3) = X3 at HS3 HT3 ⊢
  clear hr3 HS3' HT3' cx3 fx3 dx2 dd2 HS2 HT2
  have dx := HS3.out.x.cell
  have dy := HS3.out.z.cell
  have ey := HS3.out.z.free
  have HE : Hid (∀ W', Off (fun q => q = w.heap.size + 1) X3 W' → TwinQ r w a1 c1 a2 c2 a3 c3 W') := fun W' ho => by
    have key : ∀ {v : Value} {bs : List Int}, BRow X3 (w.heap.size + 1 + 1) v bs → BRow W' w.heap.size v bs := fun hr => ERow.base (ERow.off hr ho fun g hg e => by have := (BRow.own hr hg).1; omega) (by omega)
    exact ⟨key HT3.out.1, key HT3.out.2.1, key HT3.out.2.2, HS3.out.b.trans (ho.below HS3.out.b.size fun k hk => by omega)⟩
  clear HT3 HS3
  go_wp2_with fail
  refine bodyPost_ret ?_ rfl ⟨a1, c1, a2, c2, a3, c3, rfl, HE.out _ ?_⟩
  · simp [results, Tryz.results5, go_sem, dy]
  · iterate 12 (refine Off.setCell ?_ (by rfl) _)
    exact Off.refl _ _
end Go.Proofs.YtdjjologpodnkaaGreatDoor
