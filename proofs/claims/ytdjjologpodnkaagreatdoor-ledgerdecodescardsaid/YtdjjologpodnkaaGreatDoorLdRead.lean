import Derived.Test.YtdjjologpodnkaaGreatDoorLdRef6
/-
  What reading a field comes to, by the document.
-/
namespace Go.Proofs.YtdjjologpodnkaaGreatDoor
open Go.RowKit

/-- The record's lists, each in a block of its own from N on. -/
structure RL (w : World) (N : Nat) (r : Rec) : Prop where
  t : BRow w N (.slice r.tp r.tn r.tc) r.tx
  c : BRow w N (.slice r.cp r.cn r.cc) r.cx
  a : BRow w N (.slice r.ap r.an r.ac) r.ax
theorem brow_off {P : Nat → Prop} {w w' : World} {N : Nat} {v : Value} {l : List Int} (h : BRow w N v l) (ho : Off P w w') (hP : ∀ g, N ≤ g → g < w.heap.size → ¬ P g) : BRow w' N v l :=
  ERow.off h ho fun g hg e => hP g (ERow.lt h hg).1 (ERow.lt h hg).2 e
theorem RL.off {w w' : World} {N db : Nat} {r : Rec} (h : RL w N r) (ho : Off (fun g => g = db) w w') (hd : db < N) : RL w' N r :=
  ⟨brow_off h.t ho (by intro g h1 _ e; omega), brow_off h.c ho (by intro g h1 _ e; omega), brow_off h.a ho (by intro g h1 _ e; omega)⟩
/-- What the document's reading of a field answers. -/
def RrQ (w : World) (N db : Nat) (po : Option Addr) (c : Nat) (bs : List Int) (p : Nat) (r : Rec) (F : Fd) (e : Ending) (w' : World) : Prop :=
  ∃ (r' : Rec) (p' : Nat) (y : Option Nat), e = .returned (.agg #[.int .i64 r'.kd, .string r'.ct, .slice r'.tp r'.tn r'.tc, .bool r'.e, .int .i64 r'.a, .int .i64 r'.p, .int .i64 r'.nu, .int .i64 r'.tk, .int .i64 r'.st, .string r'.cd, .slice r'.cp r'.cn r'.cc, .slice r'.ap r'.an r'.ac]) ∧ Hid (RRd w' db po c bs p' y ∧ Off (fun g => g = db) w w' ∧ ((rdFd bs p r.bare F = .ok (r'.bare, p') ∧ y = none ∧ RL w' N r') ∨ (∃ e, rdFd bs p r.bare F = .error e ∧ y = some e)))
theorem rd_fin {w X1 W' : World} {N db : Nat} {po : Option Addr} {c : Nat} {bs : List Int} {p p' : Nat} {y : Option Nat} {r : Rec} {F : Fd} (r' : Rec) (hd : db < N) (hN : N ≤ w.heap.size) (hpl : ∀ y, po = some y → y.block < w.heap.size) (hR : RRd X1 db po c bs p' y) (ho : Off (fun g => g = db) w X1)
    (hw : Off (fun q => q = w.heap.size ∨ q = w.heap.size + 1) X1 W') (hq : (rdFd bs p r.bare F = .ok (r'.bare, p') ∧ y = none ∧ (Off (fun g => g = db) w W' → RL W' N r')) ∨ (∃ e, rdFd bs p r.bare F = .error e ∧ y = some e)) : RrQ w N db po c bs p r F (.returned (.agg #[.int .i64 r'.kd, .string r'.ct, .slice r'.tp r'.tn r'.tc, .bool r'.e, .int .i64 r'.a, .int .i64 r'.p, .int .i64 r'.nu, .int .i64 r'.tk, .int .i64 r'.st, .string r'.cd, .slice r'.cp r'.cn r'.cc, .slice r'.ap r'.an r'.ac])) W' := by
  have o2 : Off (fun g => g = db) w W' := ho.join hw fun k hk g => by omega
  refine ⟨r', p', y, rfl, hR.off hw (by omega) (fun y hy => by have := hpl y hy; omega), o2, ?_⟩
  rcases hq with ⟨h1, h2, h3⟩ | h
  · exact Or.inl ⟨h1, h2, h3 o2⟩
  · exact Or.inr h
/-- A list that the reading made stays. -/
theorem new_row {w X1 W' : World} {N : Nat} {v : Value} {l : List Int} (h : BRow X1 (w.heap.size + 1 + 1) v l) (hN : N ≤ w.heap.size) (hw : Off (fun q => q = w.heap.size ∨ q = w.heap.size + 1) X1 W') : BRow W' N v l :=
  ERow.base (brow_off h hw (by intro g h1 _ e; omega)) (by omega)
/-- The state behind the call within read. -/
structure RdS (w X : World) (N db : Nat) (po : Option Addr) (r : Rec) (cs : Array Value) : Prop where
  x : Box X w.heap.size cs
  z : Box X (w.heap.size + 1) zRC
  o : Off (fun g => g = db) w X
  hd : db < N
  hN : N ≤ w.heap.size
  pl : ∀ y, po = some y → y.block < w.heap.size
  l : RL w N r
theorem RdS.start {w : World} {N db : Nat} {po : Option Addr} {c : Nat} {bs : List Int} {p : Nat} {x : Option Nat} {r : Rec} (h : RRd w db po c bs p x) (hd : db < N) (hN : N ≤ w.heap.size) (hl : RL w N r) : RdS w ((w.alloc (.cells (#[.int .i64 r.kd, .string r.ct, .slice r.tp r.tn r.tc, .bool r.e, .int .i64 r.a, .int .i64 r.p, .int .i64 r.nu, .int .i64 r.tk, .int .i64 r.st, .string r.cd, .slice r.cp r.cn r.cc, .slice r.ap r.an r.ac]) 26)).alloc (.cells zRC 26)) N db po r (#[.int .i64 r.kd, .string r.ct, .slice r.tp r.tn r.tc, .bool r.e, .int .i64 r.a, .int .i64 r.p, .int .i64 r.nu, .int .i64 r.tk, .int .i64 r.st, .string r.cd, .slice r.cp r.cn r.cc, .slice r.ap r.an r.ac]) ∧ RRd ((w.alloc (.cells (#[.int .i64 r.kd, .string r.ct, .slice r.tp r.tn r.tc, .bool r.e, .int .i64 r.a, .int .i64 r.p, .int .i64 r.nu, .int .i64 r.tk, .int .i64 r.st, .string r.cd, .slice r.cp r.cn r.cc, .slice r.ap r.an r.ac]) 26)).alloc (.cells zRC 26)) db po c bs p x := by
  have bv := ((Below.refl w.heap.size w).alloc (Nat.le_refl _) (.cells (#[.int .i64 r.kd, .string r.ct, .slice r.tp r.tn r.tc, .bool r.e, .int .i64 r.a, .int .i64 r.p, .int .i64 r.nu, .int .i64 r.tk, .int .i64 r.st, .string r.cd, .slice r.cp r.cn r.cc, .slice r.ap r.an r.ac]) 26)).alloc (by simp) (.cells zRC 26)
  have bx := (Box.new w (#[.int .i64 r.kd, .string r.ct, .slice r.tp r.tn r.tc, .bool r.e, .int .i64 r.a, .int .i64 r.p, .int .i64 r.nu, .int .i64 r.tk, .int .i64 r.st, .string r.cd, .slice r.cp r.cn r.cc, .slice r.ap r.an r.ac]) 26).alloc (.cells zRC 26)
  have by_ := Box.new (w.alloc (.cells (#[.int .i64 r.kd, .string r.ct, .slice r.tp r.tn r.tc, .bool r.e, .int .i64 r.a, .int .i64 r.p, .int .i64 r.nu, .int .i64 r.tk, .int .i64 r.st, .string r.cd, .slice r.cp r.cn r.cc, .slice r.ap r.an r.ac]) 26)) zRC 26
  rw [World.size_alloc] at by_
  exact ⟨⟨bx, by_, Off.of_below bv, hd, hN, h.pl, hl⟩, h.below bv⟩
theorem RdS.off {w X Y : World} {N db : Nat} {po : Option Addr} {r : Rec} {cs : Array Value} (h : RdS w X N db po r cs) (ho : Off (fun g => g = db) X Y) : RdS w Y N db po r cs :=
  ⟨h.x.off ho (by have := h.hd; have := h.hN; omega), h.z.off ho (by have := h.hd; have := h.hN; omega), h.o.join ho fun _ _ g => g, h.hd, h.hN, h.pl, h.l⟩
end Go.Proofs.YtdjjologpodnkaaGreatDoor

/-
  The document's reading of field 2.
-/
namespace Go.Proofs.YtdjjologpodnkaaGreatDoor
open Go.RowKit

set_option maxRecDepth 100000 in
set_option maxHeartbeats 4000000 in
theorem rread_2 {w : World} {N db : Nat} {po : Option Addr} {c : Nat} {bs : List Int} {p : Nat} (r : Rec) (h : RRd w db po c bs p none) (hd : db < N) (hN : N ≤ w.heap.size) (hl : RL w N r) : Calls Tryz.prog 28 #[.pointer (some ⟨db, 0, none⟩), .agg #[.int .i64 r.kd, .string r.ct, .slice r.tp r.tn r.tc, .bool r.e, .int .i64 r.a, .int .i64 r.p, .int .i64 r.nu, .int .i64 r.tk, .int .i64 r.st, .string r.cd, .slice r.cp r.cn r.cc, .slice r.ap r.an r.ac], .int .i64 2] w (RrQ w N db po c bs p r (.str 1 ⟨#[]⟩ 1 18 0)) := by
  obtain ⟨S0, R0⟩ := RdS.start h hd hN hl
  have HS0 : Hid (type_of% S0) := S0
  have cx0 := S0.x.cell
  have hc := rcontrol_any R0
  have HD : Hid (w.heap.size + 1 + 1 = ((w.alloc (.cells (#[.int .i64 r.kd, .string r.ct, .slice r.tp r.tn r.tc, .bool r.e, .int .i64 r.a, .int .i64 r.p, .int .i64 r.nu, .int .i64 r.tk, .int .i64 r.st, .string r.cd, .slice r.cp r.cn r.cc, .slice r.ap r.an r.ac]) 26)).alloc (.cells zRC 26)).heap.size) := by simp [Hid, World.size_alloc]
  clear h hd hN hl S0 R0
  go_enter Tryz.func28, Tryz.ntmps28
  go_wp2_with fail
  refine hc.mono ?_
  rintro _ X1 ⟨s, p', y, rfl, H1⟩
  have HS1 : Hid (RdS w X1 N db po r (#[.int .i64 r.kd, .string r.ct, .slice r.tp r.tn r.tc, .bool r.e, .int .i64 r.a, .int .i64 r.p, .int .i64 r.nu, .int .i64 r.tk, .int .i64 r.st, .string r.cd, .slice r.cp r.cn r.cc, .slice r.ap r.an r.ac])) := HS0.out.off H1.out.2.1
  have cx := HS1.out.x.cell
  have fx := HS1.out.x.free
  have dy := HS1.out.z.cell
  have ey := HS1.out.z.free
  have HE : Hid (∀ W', Off (fun q => q = w.heap.size ∨ q = w.heap.size + 1) X1 W' → RrQ w N db po c bs p r (.str 1 ⟨#[]⟩ 1 18 0) (.returned (.agg #[.int .i64 r.kd, .string s, .slice r.tp r.tn r.tc, .bool r.e, .int .i64 r.a, .int .i64 r.p, .int .i64 r.nu, .int .i64 r.tk, .int .i64 r.st, .string r.cd, .slice r.cp r.cn r.cc, .slice r.ap r.an r.ac])) W') := fun W' hw => by
    refine rd_fin (r' := { r with ct := s }) HS1.out.hd HS1.out.hN HS1.out.pl H1.out.1 HS1.out.o hw ?_
    rcases H1.out.2.2 with ⟨h1, h2, h3⟩ | ⟨e, h1, h2⟩
    · refine Or.inl ⟨?_, h3, fun o => ⟨(HS1.out.l.off o HS1.out.hd).t, (HS1.out.l.off o HS1.out.hd).c, (HS1.out.l.off o HS1.out.hd).a⟩⟩
      simp only [rdFd]
      rw [show isS 0 = ctB from funext fun _ => rfl, h1, h2]
      rfl
    · refine Or.inr ⟨e, ?_, h2⟩
      simp only [rdFd]
      rw [show isS 0 = ctB from funext fun _ => rfl, h1]
  obtain ⟨xb, hxb⟩ : ∃ n, w.heap.size = n := ⟨_, rfl⟩
  rw [hxb] at cx fx dy ey HE ⊢
  clear hc cx0 hxb
  go_wp2_with fail
  refine bodyPost_ret ?_ rfl (HE.out _ ?_)
  · simp [results, Tryz.results28, go_sem, dy]
  · iterate 12 (refine Off.setCell (P := fun q => q = xb ∨ q = xb + 1) ?_ (Or.inr rfl) _)
    refine Off.setCell (P := fun q => q = xb ∨ q = xb + 1) ?_ (Or.inl rfl) _
    exact Off.refl _ _
end Go.Proofs.YtdjjologpodnkaaGreatDoor

/-
  The document's reading of field 3.
-/
namespace Go.Proofs.YtdjjologpodnkaaGreatDoor
open Go.RowKit

set_option maxRecDepth 100000 in
set_option maxHeartbeats 4000000 in
theorem rread_3 {w : World} {N db : Nat} {po : Option Addr} {c : Nat} {bs : List Int} {p : Nat} (r : Rec) (h : RRd w db po c bs p none) (hd : db < N) (hN : N ≤ w.heap.size) (hl : RL w N r) : Calls Tryz.prog 28 #[.pointer (some ⟨db, 0, none⟩), .agg #[.int .i64 r.kd, .string r.ct, .slice r.tp r.tn r.tc, .bool r.e, .int .i64 r.a, .int .i64 r.p, .int .i64 r.nu, .int .i64 r.tk, .int .i64 r.st, .string r.cd, .slice r.cp r.cn r.cc, .slice r.ap r.an r.ac], .int .i64 3] w (RrQ w N db po c bs p r (.byt 2 none 0 0 [] 1 8192)) := by
  obtain ⟨S0, R0⟩ := RdS.start h hd hN hl
  have HS0 : Hid (type_of% S0) := S0
  have cx0 := S0.x.cell
  have hc := rtext_any R0 1 8192 (by omega) (by omega)
  have HD : Hid (w.heap.size + 1 + 1 = ((w.alloc (.cells (#[.int .i64 r.kd, .string r.ct, .slice r.tp r.tn r.tc, .bool r.e, .int .i64 r.a, .int .i64 r.p, .int .i64 r.nu, .int .i64 r.tk, .int .i64 r.st, .string r.cd, .slice r.cp r.cn r.cc, .slice r.ap r.an r.ac]) 26)).alloc (.cells zRC 26)).heap.size) := by simp [Hid, World.size_alloc]
  clear h hd hN hl S0 R0
  go_enter Tryz.func28, Tryz.ntmps28
  go_wp2_with fail
  refine hc.mono ?_
  rintro _ X1 ⟨a, m, k, l, q, p', y, rfl, H1⟩
  have HS1 : Hid (RdS w X1 N db po r (#[.int .i64 r.kd, .string r.ct, .slice r.tp r.tn r.tc, .bool r.e, .int .i64 r.a, .int .i64 r.p, .int .i64 r.nu, .int .i64 r.tk, .int .i64 r.st, .string r.cd, .slice r.cp r.cn r.cc, .slice r.ap r.an r.ac])) := HS0.out.off H1.out.2.2.2.2.1
  have cx := HS1.out.x.cell
  have fx := HS1.out.x.free
  have dy := HS1.out.z.cell
  have ey := HS1.out.z.free
  have HE : Hid (∀ W', Off (fun q => q = w.heap.size ∨ q = w.heap.size + 1) X1 W' → RrQ w N db po c bs p r (.byt 2 none 0 0 [] 1 8192) (.returned (.agg #[.int .i64 r.kd, .string r.ct, .slice a m k, .bool r.e, .int .i64 r.a, .int .i64 r.p, .int .i64 r.nu, .int .i64 r.tk, .int .i64 r.st, .string r.cd, .slice r.cp r.cn r.cc, .slice r.ap r.an r.ac])) W') := fun W' hw => by
    refine rd_fin (r' := { r with tp := a, tn := m, tc := k, tx := l }) HS1.out.hd HS1.out.hN HS1.out.pl H1.out.1 HS1.out.o hw ?_
    rcases H1.out.2.2.2.2.2 with ⟨h1, h2, h3, h4⟩ | ⟨e, h1, h2, h3⟩
    · refine Or.inl ⟨?_, h4, fun o => ⟨new_row (by rw [HD.out]; exact H1.out.2.1) HS1.out.hN hw, (HS1.out.l.off o HS1.out.hd).c, (HS1.out.l.off o HS1.out.hd).a⟩⟩
      simp only [rdFd]
      rw [h1, h3]
      simp only [H1.out.2.2.1]
      have hm := H1.out.2.2.1
      subst hm
      rfl
    · refine Or.inr ⟨e, ?_, h2⟩
      simp only [rdFd]
      rw [h1]
  obtain ⟨xb, hxb⟩ : ∃ n, w.heap.size = n := ⟨_, rfl⟩
  rw [hxb] at cx fx dy ey HE ⊢
  clear hc cx0 hxb
  go_wp2_with fail
  refine bodyPost_ret ?_ rfl (HE.out _ ?_)
  · simp [results, Tryz.results28, go_sem, dy]
  · iterate 12 (refine Off.setCell (P := fun q => q = xb ∨ q = xb + 1) ?_ (Or.inr rfl) _)
    refine Off.setCell (P := fun q => q = xb ∨ q = xb + 1) ?_ (Or.inl rfl) _
    exact Off.refl _ _
end Go.Proofs.YtdjjologpodnkaaGreatDoor

/-
  The document's reading of field 4.
-/
namespace Go.Proofs.YtdjjologpodnkaaGreatDoor
open Go.RowKit

set_option maxRecDepth 100000 in
set_option maxHeartbeats 4000000 in
theorem rread_4 {w : World} {N db : Nat} {po : Option Addr} {c : Nat} {bs : List Int} {p : Nat} (r : Rec) (h : RRd w db po c bs p none) (hd : db < N) (hN : N ≤ w.heap.size) (hl : RL w N r) : Calls Tryz.prog 28 #[.pointer (some ⟨db, 0, none⟩), .agg #[.int .i64 r.kd, .string r.ct, .slice r.tp r.tn r.tc, .bool r.e, .int .i64 r.a, .int .i64 r.p, .int .i64 r.nu, .int .i64 r.tk, .int .i64 r.st, .string r.cd, .slice r.cp r.cn r.cc, .slice r.ap r.an r.ac], .int .i64 4] w (RrQ w N db po c bs p r (.cnd false 0 0)) := by
  obtain ⟨S0, R0⟩ := RdS.start h hd hN hl
  have HS0 : Hid (type_of% S0) := S0
  have cx0 := S0.x.cell
  have hc := rcond_any R0
  have HD : Hid (w.heap.size + 1 + 1 = ((w.alloc (.cells (#[.int .i64 r.kd, .string r.ct, .slice r.tp r.tn r.tc, .bool r.e, .int .i64 r.a, .int .i64 r.p, .int .i64 r.nu, .int .i64 r.tk, .int .i64 r.st, .string r.cd, .slice r.cp r.cn r.cc, .slice r.ap r.an r.ac]) 26)).alloc (.cells zRC 26)).heap.size) := by simp [Hid, World.size_alloc]
  clear h hd hN hl S0 R0
  go_enter Tryz.func28, Tryz.ntmps28
  go_wp2_with fail
  refine hc.mono ?_
  rintro _ X1 ⟨x, u, v, p', y, rfl, H1⟩
  have HS1 : Hid (RdS w X1 N db po r (#[.int .i64 r.kd, .string r.ct, .slice r.tp r.tn r.tc, .bool r.e, .int .i64 r.a, .int .i64 r.p, .int .i64 r.nu, .int .i64 r.tk, .int .i64 r.st, .string r.cd, .slice r.cp r.cn r.cc, .slice r.ap r.an r.ac])) := HS0.out.off H1.out.2.1
  have cx := HS1.out.x.cell
  have fx := HS1.out.x.free
  have dy := HS1.out.z.cell
  have ey := HS1.out.z.free
  have HE : Hid (∀ W', Off (fun q => q = w.heap.size ∨ q = w.heap.size + 1) X1 W' → RrQ w N db po c bs p r (.cnd false 0 0) (.returned (.agg #[.int .i64 r.kd, .string r.ct, .slice r.tp r.tn r.tc, .bool x, .int .i64 u, .int .i64 v, .int .i64 r.nu, .int .i64 r.tk, .int .i64 r.st, .string r.cd, .slice r.cp r.cn r.cc, .slice r.ap r.an r.ac])) W') := fun W' hw => by
    refine rd_fin (r' := { r with e := x, a := u, p := v }) HS1.out.hd HS1.out.hN HS1.out.pl H1.out.1 HS1.out.o hw ?_
    rcases H1.out.2.2 with ⟨h1, h2, h3⟩ | ⟨e, h1, h2⟩
    · refine Or.inl ⟨?_, h3, fun o => ⟨(HS1.out.l.off o HS1.out.hd).t, (HS1.out.l.off o HS1.out.hd).c, (HS1.out.l.off o HS1.out.hd).a⟩⟩
      simp only [rdFd]
      rw [h1, h2]
      rfl
    · refine Or.inr ⟨e, ?_, h2⟩
      simp only [rdFd]
      rw [h1]
  obtain ⟨xb, hxb⟩ : ∃ n, w.heap.size = n := ⟨_, rfl⟩
  rw [hxb] at cx fx dy ey HE ⊢
  clear hc cx0 hxb
  go_wp2_with fail
  refine bodyPost_ret ?_ rfl (HE.out _ ?_)
  · simp [results, Tryz.results28, go_sem, dy]
  · iterate 12 (refine Off.setCell (P := fun q => q = xb ∨ q = xb + 1) ?_ (Or.inr rfl) _)
    refine Off.setCell (P := fun q => q = xb ∨ q = xb + 1) ?_ (Or.inl rfl) _
    refine Off.setCell (P := fun q => q = xb ∨ q = xb + 1) ?_ (Or.inl rfl) _
    refine Off.setCell (P := fun q => q = xb ∨ q = xb + 1) ?_ (Or.inl rfl) _
    exact Off.refl _ _
end Go.Proofs.YtdjjologpodnkaaGreatDoor

/-
  The document's reading of field 5.
-/
namespace Go.Proofs.YtdjjologpodnkaaGreatDoor
open Go.RowKit

set_option maxRecDepth 100000 in
set_option maxHeartbeats 4000000 in
theorem rread_5 {w : World} {N db : Nat} {po : Option Addr} {c : Nat} {bs : List Int} {p : Nat} (r : Rec) (h : RRd w db po c bs p none) (hd : db < N) (hN : N ≤ w.heap.size) (hl : RL w N r) : Calls Tryz.prog 28 #[.pointer (some ⟨db, 0, none⟩), .agg #[.int .i64 r.kd, .string r.ct, .slice r.tp r.tn r.tc, .bool r.e, .int .i64 r.a, .int .i64 r.p, .int .i64 r.nu, .int .i64 r.tk, .int .i64 r.st, .string r.cd, .slice r.cp r.cn r.cc, .slice r.ap r.an r.ac], .int .i64 5] w (RrQ w N db po c bs p r (.num 6 0 8 (lnI r.kd) 2147483647)) := by
  obtain ⟨S0, R0⟩ := RdS.start h hd hN hl
  have HS0 : Hid (type_of% S0) := S0
  have cx0 := S0.x.cell
  have hlb : 0 ≤ lnI r.kd ∧ lnI r.kd ≤ 1 := by unfold lnI; split <;> decide
  have hc := rnumber_any R0 (lnI r.kd) 2147483647 hlb.1 (by omega) (by omega) (by omega)
  have hle := rLeast_any r.kd
  clear hlb
  obtain ⟨lo, hlo⟩ : ∃ x, lnI r.kd = x := ⟨_, rfl⟩
  rw [hlo] at hc hle ⊢
  clear hlo
  have HD : Hid (w.heap.size + 1 + 1 = ((w.alloc (.cells (#[.int .i64 r.kd, .string r.ct, .slice r.tp r.tn r.tc, .bool r.e, .int .i64 r.a, .int .i64 r.p, .int .i64 r.nu, .int .i64 r.tk, .int .i64 r.st, .string r.cd, .slice r.cp r.cn r.cc, .slice r.ap r.an r.ac]) 26)).alloc (.cells zRC 26)).heap.size) := by simp [Hid, World.size_alloc]
  clear h hd hN hl S0 R0
  go_enter Tryz.func28, Tryz.ntmps28
  go_wp2_with fail
  refine (hle _).mono ?_
  rintro _ w0 ⟨rfl, hw⟩
  subst w0
  clear hle
  go_wp2_with fail
  refine hc.mono ?_
  rintro _ X1 ⟨v, p', y, rfl, H1⟩
  have HS1 : Hid (RdS w X1 N db po r (#[.int .i64 r.kd, .string r.ct, .slice r.tp r.tn r.tc, .bool r.e, .int .i64 r.a, .int .i64 r.p, .int .i64 r.nu, .int .i64 r.tk, .int .i64 r.st, .string r.cd, .slice r.cp r.cn r.cc, .slice r.ap r.an r.ac])) := HS0.out.off H1.out.2.1
  have cx := HS1.out.x.cell
  have fx := HS1.out.x.free
  have dy := HS1.out.z.cell
  have ey := HS1.out.z.free
  have HE : Hid (∀ W', Off (fun q => q = w.heap.size ∨ q = w.heap.size + 1) X1 W' → RrQ w N db po c bs p r (.num 6 0 8 lo 2147483647) (.returned (.agg #[.int .i64 r.kd, .string r.ct, .slice r.tp r.tn r.tc, .bool r.e, .int .i64 r.a, .int .i64 r.p, .int .i64 v, .int .i64 r.tk, .int .i64 r.st, .string r.cd, .slice r.cp r.cn r.cc, .slice r.ap r.an r.ac])) W') := fun W' hw => by
    refine rd_fin (r' := { r with nu := v }) HS1.out.hd HS1.out.hN HS1.out.pl H1.out.1 HS1.out.o hw ?_
    rcases H1.out.2.2 with ⟨h1, h2, h3⟩ | ⟨e, h1, h2⟩
    · refine Or.inl ⟨?_, h3, fun o => ⟨(HS1.out.l.off o HS1.out.hd).t, (HS1.out.l.off o HS1.out.hd).c, (HS1.out.l.off o HS1.out.hd).a⟩⟩
      simp only [rdFd]
      rw [h1, h2]
      rfl
    · refine Or.inr ⟨e, ?_, h2⟩
      simp only [rdFd]
      rw [h1]
  obtain ⟨xb, hxb⟩ : ∃ n, w.heap.size = n := ⟨_, rfl⟩
  rw [hxb] at cx fx dy ey HE ⊢
  clear hc cx0 hxb
  go_wp2_with fail
  refine bodyPost_ret ?_ rfl (HE.out _ ?_)
  · simp [results, Tryz.results28, go_sem, dy]
  · iterate 12 (refine Off.setCell (P := fun q => q = xb ∨ q = xb + 1) ?_ (Or.inr rfl) _)
    refine Off.setCell (P := fun q => q = xb ∨ q = xb + 1) ?_ (Or.inl rfl) _
    exact Off.refl _ _
end Go.Proofs.YtdjjologpodnkaaGreatDoor

/-
  The document's reading of field 6.
-/
namespace Go.Proofs.YtdjjologpodnkaaGreatDoor
open Go.RowKit

set_option maxRecDepth 100000 in
set_option maxHeartbeats 4000000 in
theorem rread_6 {w : World} {N db : Nat} {po : Option Addr} {c : Nat} {bs : List Int} {p : Nat} (r : Rec) (h : RRd w db po c bs p none) (hd : db < N) (hN : N ≤ w.heap.size) (hl : RL w N r) : Calls Tryz.prog 28 #[.pointer (some ⟨db, 0, none⟩), .agg #[.int .i64 r.kd, .string r.ct, .slice r.tp r.tn r.tc, .bool r.e, .int .i64 r.a, .int .i64 r.p, .int .i64 r.nu, .int .i64 r.tk, .int .i64 r.st, .string r.cd, .slice r.cp r.cn r.cc, .slice r.ap r.an r.ac], .int .i64 6] w (RrQ w N db po c bs p r (.num 7 0 8 (0) 1099511627776)) := by
  obtain ⟨S0, R0⟩ := RdS.start h hd hN hl
  have HS0 : Hid (type_of% S0) := S0
  have cx0 := S0.x.cell
  have hc := rnumber_any R0 (0) 1099511627776 (by omega) (by omega) (by omega) (by omega)
  have HD : Hid (w.heap.size + 1 + 1 = ((w.alloc (.cells (#[.int .i64 r.kd, .string r.ct, .slice r.tp r.tn r.tc, .bool r.e, .int .i64 r.a, .int .i64 r.p, .int .i64 r.nu, .int .i64 r.tk, .int .i64 r.st, .string r.cd, .slice r.cp r.cn r.cc, .slice r.ap r.an r.ac]) 26)).alloc (.cells zRC 26)).heap.size) := by simp [Hid, World.size_alloc]
  clear h hd hN hl S0 R0
  go_enter Tryz.func28, Tryz.ntmps28
  go_wp2_with fail
  refine hc.mono ?_
  rintro _ X1 ⟨v, p', y, rfl, H1⟩
  have HS1 : Hid (RdS w X1 N db po r (#[.int .i64 r.kd, .string r.ct, .slice r.tp r.tn r.tc, .bool r.e, .int .i64 r.a, .int .i64 r.p, .int .i64 r.nu, .int .i64 r.tk, .int .i64 r.st, .string r.cd, .slice r.cp r.cn r.cc, .slice r.ap r.an r.ac])) := HS0.out.off H1.out.2.1
  have cx := HS1.out.x.cell
  have fx := HS1.out.x.free
  have dy := HS1.out.z.cell
  have ey := HS1.out.z.free
  have HE : Hid (∀ W', Off (fun q => q = w.heap.size ∨ q = w.heap.size + 1) X1 W' → RrQ w N db po c bs p r (.num 7 0 8 (0) 1099511627776) (.returned (.agg #[.int .i64 r.kd, .string r.ct, .slice r.tp r.tn r.tc, .bool r.e, .int .i64 r.a, .int .i64 r.p, .int .i64 r.nu, .int .i64 v, .int .i64 r.st, .string r.cd, .slice r.cp r.cn r.cc, .slice r.ap r.an r.ac])) W') := fun W' hw => by
    refine rd_fin (r' := { r with tk := v }) HS1.out.hd HS1.out.hN HS1.out.pl H1.out.1 HS1.out.o hw ?_
    rcases H1.out.2.2 with ⟨h1, h2, h3⟩ | ⟨e, h1, h2⟩
    · refine Or.inl ⟨?_, h3, fun o => ⟨(HS1.out.l.off o HS1.out.hd).t, (HS1.out.l.off o HS1.out.hd).c, (HS1.out.l.off o HS1.out.hd).a⟩⟩
      simp only [rdFd]
      rw [h1, h2]
      rfl
    · refine Or.inr ⟨e, ?_, h2⟩
      simp only [rdFd]
      rw [h1]
  obtain ⟨xb, hxb⟩ : ∃ n, w.heap.size = n := ⟨_, rfl⟩
  rw [hxb] at cx fx dy ey HE ⊢
  clear hc cx0 hxb
  go_wp2_with fail
  refine bodyPost_ret ?_ rfl (HE.out _ ?_)
  · simp [results, Tryz.results28, go_sem, dy]
  · iterate 12 (refine Off.setCell (P := fun q => q = xb ∨ q = xb + 1) ?_ (Or.inr rfl) _)
    refine Off.setCell (P := fun q => q = xb ∨ q = xb + 1) ?_ (Or.inl rfl) _
    exact Off.refl _ _
end Go.Proofs.YtdjjologpodnkaaGreatDoor

/-
  The document's reading of field 7.
-/
namespace Go.Proofs.YtdjjologpodnkaaGreatDoor
open Go.RowKit

set_option maxRecDepth 100000 in
set_option maxHeartbeats 4000000 in
theorem rread_7 {w : World} {N db : Nat} {po : Option Addr} {c : Nat} {bs : List Int} {p : Nat} (r : Rec) (h : RRd w db po c bs p none) (hd : db < N) (hN : N ≤ w.heap.size) (hl : RL w N r) : Calls Tryz.prog 28 #[.pointer (some ⟨db, 0, none⟩), .agg #[.int .i64 r.kd, .string r.ct, .slice r.tp r.tn r.tc, .bool r.e, .int .i64 r.a, .int .i64 r.p, .int .i64 r.nu, .int .i64 r.tk, .int .i64 r.st, .string r.cd, .slice r.cp r.cn r.cc, .slice r.ap r.an r.ac], .int .i64 7] w (RrQ w N db po c bs p r (.num 8 0 8 (4) 6)) := by
  obtain ⟨S0, R0⟩ := RdS.start h hd hN hl
  have HS0 : Hid (type_of% S0) := S0
  have cx0 := S0.x.cell
  have hc := rnumber_any R0 (4) 6 (by omega) (by omega) (by omega) (by omega)
  have HD : Hid (w.heap.size + 1 + 1 = ((w.alloc (.cells (#[.int .i64 r.kd, .string r.ct, .slice r.tp r.tn r.tc, .bool r.e, .int .i64 r.a, .int .i64 r.p, .int .i64 r.nu, .int .i64 r.tk, .int .i64 r.st, .string r.cd, .slice r.cp r.cn r.cc, .slice r.ap r.an r.ac]) 26)).alloc (.cells zRC 26)).heap.size) := by simp [Hid, World.size_alloc]
  clear h hd hN hl S0 R0
  go_enter Tryz.func28, Tryz.ntmps28
  go_wp2_with fail
  refine hc.mono ?_
  rintro _ X1 ⟨v, p', y, rfl, H1⟩
  have HS1 : Hid (RdS w X1 N db po r (#[.int .i64 r.kd, .string r.ct, .slice r.tp r.tn r.tc, .bool r.e, .int .i64 r.a, .int .i64 r.p, .int .i64 r.nu, .int .i64 r.tk, .int .i64 r.st, .string r.cd, .slice r.cp r.cn r.cc, .slice r.ap r.an r.ac])) := HS0.out.off H1.out.2.1
  have cx := HS1.out.x.cell
  have fx := HS1.out.x.free
  have dy := HS1.out.z.cell
  have ey := HS1.out.z.free
  have HE : Hid (∀ W', Off (fun q => q = w.heap.size ∨ q = w.heap.size + 1) X1 W' → RrQ w N db po c bs p r (.num 8 0 8 (4) 6) (.returned (.agg #[.int .i64 r.kd, .string r.ct, .slice r.tp r.tn r.tc, .bool r.e, .int .i64 r.a, .int .i64 r.p, .int .i64 r.nu, .int .i64 r.tk, .int .i64 v, .string r.cd, .slice r.cp r.cn r.cc, .slice r.ap r.an r.ac])) W') := fun W' hw => by
    refine rd_fin (r' := { r with st := v }) HS1.out.hd HS1.out.hN HS1.out.pl H1.out.1 HS1.out.o hw ?_
    rcases H1.out.2.2 with ⟨h1, h2, h3⟩ | ⟨e, h1, h2⟩
    · refine Or.inl ⟨?_, h3, fun o => ⟨(HS1.out.l.off o HS1.out.hd).t, (HS1.out.l.off o HS1.out.hd).c, (HS1.out.l.off o HS1.out.hd).a⟩⟩
      simp only [rdFd]
      rw [h1, h2]
      rfl
    · refine Or.inr ⟨e, ?_, h2⟩
      simp only [rdFd]
      rw [h1]
  obtain ⟨xb, hxb⟩ : ∃ n, w.heap.size = n := ⟨_, rfl⟩
  rw [hxb] at cx fx dy ey HE ⊢
  clear hc cx0 hxb
  go_wp2_with fail
  refine bodyPost_ret ?_ rfl (HE.out _ ?_)
  · simp [results, Tryz.results28, go_sem, dy]
  · iterate 12 (refine Off.setCell (P := fun q => q = xb ∨ q = xb + 1) ?_ (Or.inr rfl) _)
    refine Off.setCell (P := fun q => q = xb ∨ q = xb + 1) ?_ (Or.inl rfl) _
    exact Off.refl _ _
end Go.Proofs.YtdjjologpodnkaaGreatDoor

/-
  The document's reading of field 8.
-/
namespace Go.Proofs.YtdjjologpodnkaaGreatDoor
open Go.RowKit

set_option maxRecDepth 100000 in
set_option maxHeartbeats 4000000 in
theorem rread_8a {w : World} {N db : Nat} {po : Option Addr} {c : Nat} {bs : List Int} {p : Nat} (r : Rec) (h : RRd w db po c bs p none) (hd : db < N) (hN : N ≤ w.heap.size) (hl : RL w N r) (kk : Nat) (hkk : ∀ s, isS kk s = cwB r.kd r.st s) (k4 : (r.kd == 4) = false) : Calls Tryz.prog 28 #[.pointer (some ⟨db, 0, none⟩), .agg #[.int .i64 r.kd, .string r.ct, .slice r.tp r.tn r.tc, .bool r.e, .int .i64 r.a, .int .i64 r.p, .int .i64 r.nu, .int .i64 r.tk, .int .i64 r.st, .string r.cd, .slice r.cp r.cn r.cc, .slice r.ap r.an r.ac], .int .i64 8] w (RrQ w N db po c bs p r (.str 9 ⟨#[]⟩ 2 2 kk)) := by
  obtain ⟨S0, R0⟩ := RdS.start h hd hN hl
  have HS0 : Hid (type_of% S0) := S0
  have cx0 := S0.x.cell
  have HKK : Hid (∀ s, isS kk s = cwB r.kd r.st s) := hkk
  have hc := rtext_any R0 2 2 (by omega) (by omega)
  have hcw := rCodeWell_any r.kd r.st
  clear hkk
  have HD : Hid (w.heap.size + 1 + 1 = ((w.alloc (.cells (#[.int .i64 r.kd, .string r.ct, .slice r.tp r.tn r.tc, .bool r.e, .int .i64 r.a, .int .i64 r.p, .int .i64 r.nu, .int .i64 r.tk, .int .i64 r.st, .string r.cd, .slice r.cp r.cn r.cc, .slice r.ap r.an r.ac]) 26)).alloc (.cells zRC 26)).heap.size) := by simp [Hid, World.size_alloc]
  clear h hd hN hl S0 R0
  go_enter Tryz.func28, Tryz.ntmps28
  go_wp2_with fail
  refine hc.mono ?_
  rintro _ X1 ⟨a, m, k, l, q, p', y, rfl, H1⟩
  have HS1 : Hid (RdS w X1 N db po r (#[.int .i64 r.kd, .string r.ct, .slice r.tp r.tn r.tc, .bool r.e, .int .i64 r.a, .int .i64 r.p, .int .i64 r.nu, .int .i64 r.tk, .int .i64 r.st, .string r.cd, .slice r.cp r.cn r.cc, .slice r.ap r.an r.ac])) := HS0.out.off H1.out.2.2.2.2.1
  have cx := HS1.out.x.cell
  have fx := HS1.out.x.free
  have dy := HS1.out.z.cell
  have ey := HS1.out.z.free
  obtain ⟨S, hS⟩ : ∃ S, strOf l = S := ⟨_, rfl⟩
  have hcv : ∀ c, _ := fun c => run_conv_bytes (c := c) (BRow.byts H1.out.2.1)
  rw [hS] at hcv
  have HSS : Hid (strOf l = S ∧ S.size = m) := ⟨hS, by rw [← hS, strOf_size]; exact H1.out.2.2.1⟩
  have o2 : Off (fun q => q = w.heap.size) X1 (X1.setCell ⟨w.heap.size, 9, none⟩ (.string S)) := Off.setCell (P := fun q => q = w.heap.size) (p := ⟨w.heap.size, 9, none⟩) (Off.refl _ X1) rfl _
  have HX2 : Hid (Off (fun q => q = w.heap.size) X1 (X1.setCell ⟨w.heap.size, 9, none⟩ (.string S)) ∧ Box (X1.setCell ⟨w.heap.size, 9, none⟩ (.string S)) w.heap.size #[.int .i64 r.kd, .string r.ct, .slice r.tp r.tn r.tc, .bool r.e, .int .i64 r.a, .int .i64 r.p, .int .i64 r.nu, .int .i64 r.tk, .int .i64 r.st, .string S, .slice r.cp r.cn r.cc, .slice r.ap r.an r.ac] ∧ Box (X1.setCell ⟨w.heap.size, 9, none⟩ (.string S)) (w.heap.size + 1) zRC ∧ RRd (X1.setCell ⟨w.heap.size, 9, none⟩ (.string S)) db po c bs p' y) :=
    ⟨o2, HS1.out.x.pPut (j := 9) (by simp) (.string S), HS1.out.z.pOff (p := ⟨w.heap.size, 9, none⟩) (by simp) _, H1.out.1.off o2 (by have := HS1.out.hd; have := HS1.out.hN; omega) (fun y hy => by have := HS1.out.pl y hy; omega)⟩
  obtain ⟨xb, hxb⟩ : ∃ n, w.heap.size = n := ⟨_, rfl⟩
  have HXB : Hid (w.heap.size = xb) := hxb
  rw [hxb] at cx fx dy ey HX2 ⊢
  clear hc cx0 hxb hS o2
  go_wp2_with fail
  refine (hcw S _).mono ?_
  rintro _ w2 ⟨rfl, hw⟩
  subst w2
  clear hcw hcv cx fx dy ey
  generalize X1.setCell ⟨xb, 9, none⟩ (.string S) = X2 at HX2 ⊢
  cases hb : cwB r.kd r.st S with
  | true =>
    have HE : Hid (∀ W', Off (fun q => q = xb ∨ q = xb + 1) X2 W' → RrQ w N db po c bs p r (.str 9 ⟨#[]⟩ 2 2 kk) (.returned (.agg #[.int .i64 r.kd, .string r.ct, .slice r.tp r.tn r.tc, .bool r.e, .int .i64 r.a, .int .i64 r.p, .int .i64 r.nu, .int .i64 r.tk, .int .i64 r.st, .string S, .slice r.cp r.cn r.cc, .slice r.ap r.an r.ac])) W') := fun W' hw => by
      rw [← HXB.out] at hw
      have hw1 : Off (fun q => q = w.heap.size ∨ q = w.heap.size + 1) X1 W' := (HX2.out.1.mono fun _ g => Or.inl (by rw [HXB.out]; exact g)).join hw fun _ _ g => g
      refine rd_fin (r' := { r with cd := S }) HS1.out.hd HS1.out.hN HS1.out.pl H1.out.1 HS1.out.o hw1 ?_
      rcases H1.out.2.2.2.2.2 with ⟨h1, h2, h3, h4⟩ | ⟨e, h1, h2, h3⟩
      · refine Or.inl ⟨?_, h4, fun o => ⟨(HS1.out.l.off o HS1.out.hd).t, (HS1.out.l.off o HS1.out.hd).c, (HS1.out.l.off o HS1.out.hd).a⟩⟩
        have hs : rStr (isS kk) bs p 2 2 = .ok S := by
          unfold rStr
          rw [h1]
          simp only [HSS.out.1]
          exact if_pos (by rw [HKK.out]; exact hb)
        simp only [rdFd]
        rw [hs, h3, ← HSS.out.2]
        rfl
      · refine Or.inr ⟨e, ?_, h2⟩
        have hs : rStr (isS kk) bs p 2 2 = .error e := by
          unfold rStr
          rw [h1]
        simp only [rdFd]
        rw [hs]
    have cx := HX2.out.2.1.cell
    have dy := HX2.out.2.2.1.cell
    have ey := HX2.out.2.2.1.free
    clear hb
    go_wp2_with fail
    refine bodyPost_ret ?_ rfl (HE.out _ ?_)
    · simp [results, Tryz.results28, go_sem, dy]
    · iterate 12 (refine Off.setCell (P := fun q => q = xb ∨ q = xb + 1) ?_ (Or.inr rfl) _)
      exact Off.refl _ _
  | false =>
    have hf := rfault_any HX2.out.2.2.2 q
    have HE : Hid (∀ X3 W', RRd X3 db po c bs p' (orX y q) → Off (fun g => g = db) X2 X3 → Off (fun q => q = xb ∨ q = xb + 1) X3 W' → RrQ w N db po c bs p r (.str 9 ⟨#[]⟩ 2 2 kk) (.returned (.agg #[.int .i64 r.kd, .string r.ct, .slice r.tp r.tn r.tc, .bool r.e, .int .i64 r.a, .int .i64 r.p, .int .i64 r.nu, .int .i64 r.tk, .int .i64 r.st, .string S, .slice r.cp r.cn r.cc, .slice r.ap r.an r.ac])) W') := fun X3 W' hR3 ho3 hw => by
      rw [← HXB.out] at hw
      have hw1 : Off (fun g => g = db) w X3 := (HS1.out.o.join HX2.out.1 (fun k hk g => by have := HXB.out; omega)).join ho3 fun _ _ g => g
      refine rd_fin (r' := { r with cd := S }) HS1.out.hd HS1.out.hN HS1.out.pl hR3 hw1 hw ?_
      rcases H1.out.2.2.2.2.2 with ⟨h1, h2, h3, h4⟩ | ⟨e, h1, h2, h3⟩
      · refine Or.inr ⟨p + 4, ?_, by rw [h4, h2]; rfl⟩
        have hs : rStr (isS kk) bs p 2 2 = .error (p + 4) := by
          unfold rStr
          rw [h1]
          simp only [HSS.out.1]
          exact if_neg (by rw [HKK.out, hb]; decide)
        simp only [rdFd]
        rw [hs]
      · refine Or.inr ⟨e, ?_, by rw [h2]; rfl⟩
        have hs : rStr (isS kk) bs p 2 2 = .error e := by
          unfold rStr
          rw [h1]
        simp only [rdFd]
        rw [hs]
    have HN3 : Hid (∀ X3, Off (fun g => g = db) X2 X3 → Box X3 xb #[.int .i64 r.kd, .string r.ct, .slice r.tp r.tn r.tc, .bool r.e, .int .i64 r.a, .int .i64 r.p, .int .i64 r.nu, .int .i64 r.tk, .int .i64 r.st, .string S, .slice r.cp r.cn r.cc, .slice r.ap r.an r.ac] ∧ Box X3 (xb + 1) zRC) := fun X3 ho => ⟨HX2.out.2.1.off ho (by have := HS1.out.hd; have := HS1.out.hN; have := HXB.out; omega), HX2.out.2.2.1.off ho (by have := HS1.out.hd; have := HS1.out.hN; have := HXB.out; omega)⟩
    clear hb
    go_wp2_with fail
    refine hf.mono ?_
    rintro _ X3 ⟨rfl, H3⟩
    have cx := (HN3.out _ H3.out.2).1.cell
    have dy := (HN3.out _ H3.out.2).2.cell
    have ey := (HN3.out _ H3.out.2).2.free
    clear hf
    go_wp2_with fail
    refine bodyPost_ret ?_ rfl (HE.out X3 _ H3.out.1 H3.out.2 ?_)
    · simp [results, Tryz.results28, go_sem, dy]
    · iterate 12 (refine Off.setCell (P := fun q => q = xb ∨ q = xb + 1) ?_ (Or.inr rfl) _)
      exact Off.refl _ _
end Go.Proofs.YtdjjologpodnkaaGreatDoor

/-
  The document's reading of field 8.
-/
namespace Go.Proofs.YtdjjologpodnkaaGreatDoor
open Go.RowKit

set_option maxRecDepth 100000 in
set_option maxHeartbeats 4000000 in
theorem rread_8b {w : World} {N db : Nat} {po : Option Addr} {c : Nat} {bs : List Int} {p : Nat} (r : Rec) (h : RRd w db po c bs p none) (hd : db < N) (hN : N ≤ w.heap.size) (hl : RL w N r) (kk : Nat) (hkk : ∀ s, isS kk s = cwB r.kd r.st s) (k4 : (r.kd == 4) = true) (s4 : (r.st == 4) = true) : Calls Tryz.prog 28 #[.pointer (some ⟨db, 0, none⟩), .agg #[.int .i64 r.kd, .string r.ct, .slice r.tp r.tn r.tc, .bool r.e, .int .i64 r.a, .int .i64 r.p, .int .i64 r.nu, .int .i64 r.tk, .int .i64 r.st, .string r.cd, .slice r.cp r.cn r.cc, .slice r.ap r.an r.ac], .int .i64 8] w (RrQ w N db po c bs p r (.str 9 ⟨#[]⟩ 2 2 kk)) := by
  obtain ⟨S0, R0⟩ := RdS.start h hd hN hl
  have HS0 : Hid (type_of% S0) := S0
  have cx0 := S0.x.cell
  have HKK : Hid (∀ s, isS kk s = cwB r.kd r.st s) := hkk
  have hc := rtext_any R0 2 2 (by omega) (by omega)
  have hcw := rCodeWell_any r.kd r.st
  have s5 : (r.st != 4) = false := by simp only [bne, s4, Bool.not_true]
  clear hkk
  have HD : Hid (w.heap.size + 1 + 1 = ((w.alloc (.cells (#[.int .i64 r.kd, .string r.ct, .slice r.tp r.tn r.tc, .bool r.e, .int .i64 r.a, .int .i64 r.p, .int .i64 r.nu, .int .i64 r.tk, .int .i64 r.st, .string r.cd, .slice r.cp r.cn r.cc, .slice r.ap r.an r.ac]) 26)).alloc (.cells zRC 26)).heap.size) := by simp [Hid, World.size_alloc]
  clear h hd hN hl S0 R0
  go_enter Tryz.func28, Tryz.ntmps28
  go_wp2_with fail
  refine hc.mono ?_
  rintro _ X1 ⟨a, m, k, l, q, p', y, rfl, H1⟩
  have HS1 : Hid (RdS w X1 N db po r (#[.int .i64 r.kd, .string r.ct, .slice r.tp r.tn r.tc, .bool r.e, .int .i64 r.a, .int .i64 r.p, .int .i64 r.nu, .int .i64 r.tk, .int .i64 r.st, .string r.cd, .slice r.cp r.cn r.cc, .slice r.ap r.an r.ac])) := HS0.out.off H1.out.2.2.2.2.1
  have cx := HS1.out.x.cell
  have fx := HS1.out.x.free
  have dy := HS1.out.z.cell
  have ey := HS1.out.z.free
  obtain ⟨S, hS⟩ : ∃ S, strOf l = S := ⟨_, rfl⟩
  have hcv : ∀ c, _ := fun c => run_conv_bytes (c := c) (BRow.byts H1.out.2.1)
  rw [hS] at hcv
  have HSS : Hid (strOf l = S ∧ S.size = m) := ⟨hS, by rw [← hS, strOf_size]; exact H1.out.2.2.1⟩
  have o2 : Off (fun q => q = w.heap.size) X1 (X1.setCell ⟨w.heap.size, 9, none⟩ (.string S)) := Off.setCell (P := fun q => q = w.heap.size) (p := ⟨w.heap.size, 9, none⟩) (Off.refl _ X1) rfl _
  have HX2 : Hid (Off (fun q => q = w.heap.size) X1 (X1.setCell ⟨w.heap.size, 9, none⟩ (.string S)) ∧ Box (X1.setCell ⟨w.heap.size, 9, none⟩ (.string S)) w.heap.size #[.int .i64 r.kd, .string r.ct, .slice r.tp r.tn r.tc, .bool r.e, .int .i64 r.a, .int .i64 r.p, .int .i64 r.nu, .int .i64 r.tk, .int .i64 r.st, .string S, .slice r.cp r.cn r.cc, .slice r.ap r.an r.ac] ∧ Box (X1.setCell ⟨w.heap.size, 9, none⟩ (.string S)) (w.heap.size + 1) zRC ∧ RRd (X1.setCell ⟨w.heap.size, 9, none⟩ (.string S)) db po c bs p' y) :=
    ⟨o2, HS1.out.x.pPut (j := 9) (by simp) (.string S), HS1.out.z.pOff (p := ⟨w.heap.size, 9, none⟩) (by simp) _, H1.out.1.off o2 (by have := HS1.out.hd; have := HS1.out.hN; omega) (fun y hy => by have := HS1.out.pl y hy; omega)⟩
  obtain ⟨xb, hxb⟩ : ∃ n, w.heap.size = n := ⟨_, rfl⟩
  have HXB : Hid (w.heap.size = xb) := hxb
  rw [hxb] at cx fx dy ey HX2 ⊢
  clear hc cx0 hxb hS o2
  go_wp2_with fail
  refine (hcw S _).mono ?_
  rintro _ w2 ⟨rfl, hw⟩
  subst w2
  clear hcw hcv cx fx dy ey
  generalize X1.setCell ⟨xb, 9, none⟩ (.string S) = X2 at HX2 ⊢
  cases hb : cwB r.kd r.st S with
  | true =>
    have HE : Hid (∀ W', Off (fun q => q = xb ∨ q = xb + 1) X2 W' → RrQ w N db po c bs p r (.str 9 ⟨#[]⟩ 2 2 kk) (.returned (.agg #[.int .i64 r.kd, .string r.ct, .slice r.tp r.tn r.tc, .bool r.e, .int .i64 r.a, .int .i64 r.p, .int .i64 r.nu, .int .i64 r.tk, .int .i64 r.st, .string S, .slice r.cp r.cn r.cc, .slice r.ap r.an r.ac])) W') := fun W' hw => by
      rw [← HXB.out] at hw
      have hw1 : Off (fun q => q = w.heap.size ∨ q = w.heap.size + 1) X1 W' := (HX2.out.1.mono fun _ g => Or.inl (by rw [HXB.out]; exact g)).join hw fun _ _ g => g
      refine rd_fin (r' := { r with cd := S }) HS1.out.hd HS1.out.hN HS1.out.pl H1.out.1 HS1.out.o hw1 ?_
      rcases H1.out.2.2.2.2.2 with ⟨h1, h2, h3, h4⟩ | ⟨e, h1, h2, h3⟩
      · refine Or.inl ⟨?_, h4, fun o => ⟨(HS1.out.l.off o HS1.out.hd).t, (HS1.out.l.off o HS1.out.hd).c, (HS1.out.l.off o HS1.out.hd).a⟩⟩
        have hs : rStr (isS kk) bs p 2 2 = .ok S := by
          unfold rStr
          rw [h1]
          simp only [HSS.out.1]
          exact if_pos (by rw [HKK.out]; exact hb)
        simp only [rdFd]
        rw [hs, h3, ← HSS.out.2]
        rfl
      · refine Or.inr ⟨e, ?_, h2⟩
        have hs : rStr (isS kk) bs p 2 2 = .error e := by
          unfold rStr
          rw [h1]
        simp only [rdFd]
        rw [hs]
    have cx := HX2.out.2.1.cell
    have dy := HX2.out.2.2.1.cell
    have ey := HX2.out.2.2.1.free
    clear hb
    go_wp2_with fail
    refine bodyPost_ret ?_ rfl (HE.out _ ?_)
    · simp [results, Tryz.results28, go_sem, dy]
    · iterate 12 (refine Off.setCell (P := fun q => q = xb ∨ q = xb + 1) ?_ (Or.inr rfl) _)
      exact Off.refl _ _
  | false =>
    have hf := rfault_any HX2.out.2.2.2 q
    have HE : Hid (∀ X3 W', RRd X3 db po c bs p' (orX y q) → Off (fun g => g = db) X2 X3 → Off (fun q => q = xb ∨ q = xb + 1) X3 W' → RrQ w N db po c bs p r (.str 9 ⟨#[]⟩ 2 2 kk) (.returned (.agg #[.int .i64 r.kd, .string r.ct, .slice r.tp r.tn r.tc, .bool r.e, .int .i64 r.a, .int .i64 r.p, .int .i64 r.nu, .int .i64 r.tk, .int .i64 r.st, .string S, .slice r.cp r.cn r.cc, .slice r.ap r.an r.ac])) W') := fun X3 W' hR3 ho3 hw => by
      rw [← HXB.out] at hw
      have hw1 : Off (fun g => g = db) w X3 := (HS1.out.o.join HX2.out.1 (fun k hk g => by have := HXB.out; omega)).join ho3 fun _ _ g => g
      refine rd_fin (r' := { r with cd := S }) HS1.out.hd HS1.out.hN HS1.out.pl hR3 hw1 hw ?_
      rcases H1.out.2.2.2.2.2 with ⟨h1, h2, h3, h4⟩ | ⟨e, h1, h2, h3⟩
      · refine Or.inr ⟨p + 4, ?_, by rw [h4, h2]; rfl⟩
        have hs : rStr (isS kk) bs p 2 2 = .error (p + 4) := by
          unfold rStr
          rw [h1]
          simp only [HSS.out.1]
          exact if_neg (by rw [HKK.out, hb]; decide)
        simp only [rdFd]
        rw [hs]
      · refine Or.inr ⟨e, ?_, by rw [h2]; rfl⟩
        have hs : rStr (isS kk) bs p 2 2 = .error e := by
          unfold rStr
          rw [h1]
        simp only [rdFd]
        rw [hs]
    have HN3 : Hid (∀ X3, Off (fun g => g = db) X2 X3 → Box X3 xb #[.int .i64 r.kd, .string r.ct, .slice r.tp r.tn r.tc, .bool r.e, .int .i64 r.a, .int .i64 r.p, .int .i64 r.nu, .int .i64 r.tk, .int .i64 r.st, .string S, .slice r.cp r.cn r.cc, .slice r.ap r.an r.ac] ∧ Box X3 (xb + 1) zRC) := fun X3 ho => ⟨HX2.out.2.1.off ho (by have := HS1.out.hd; have := HS1.out.hN; have := HXB.out; omega), HX2.out.2.2.1.off ho (by have := HS1.out.hd; have := HS1.out.hN; have := HXB.out; omega)⟩
    clear hb
    go_wp2_with fail
    refine hf.mono ?_
    rintro _ X3 ⟨rfl, H3⟩
    have cx := (HN3.out _ H3.out.2).1.cell
    have dy := (HN3.out _ H3.out.2).2.cell
    have ey := (HN3.out _ H3.out.2).2.free
    clear hf
    go_wp2_with fail
    refine bodyPost_ret ?_ rfl (HE.out X3 _ H3.out.1 H3.out.2 ?_)
    · simp [results, Tryz.results28, go_sem, dy]
    · iterate 12 (refine Off.setCell (P := fun q => q = xb ∨ q = xb + 1) ?_ (Or.inr rfl) _)
      exact Off.refl _ _
end Go.Proofs.YtdjjologpodnkaaGreatDoor

/-
  The document's reading of field 8.
-/
namespace Go.Proofs.YtdjjologpodnkaaGreatDoor
open Go.RowKit

set_option maxRecDepth 100000 in
set_option maxHeartbeats 4000000 in
theorem rread_8c {w : World} {N db : Nat} {po : Option Addr} {c : Nat} {bs : List Int} {p : Nat} (r : Rec) (h : RRd w db po c bs p none) (hd : db < N) (hN : N ≤ w.heap.size) (hl : RL w N r) (kk : Nat) (hkk : ∀ s, isS kk s = cwB r.kd r.st s) (k4 : (r.kd == 4) = true) (s4 : (r.st == 4) = false) : Calls Tryz.prog 28 #[.pointer (some ⟨db, 0, none⟩), .agg #[.int .i64 r.kd, .string r.ct, .slice r.tp r.tn r.tc, .bool r.e, .int .i64 r.a, .int .i64 r.p, .int .i64 r.nu, .int .i64 r.tk, .int .i64 r.st, .string r.cd, .slice r.cp r.cn r.cc, .slice r.ap r.an r.ac], .int .i64 8] w (RrQ w N db po c bs p r (.str 9 ⟨#[]⟩ 0 0 kk)) := by
  obtain ⟨S0, R0⟩ := RdS.start h hd hN hl
  have HS0 : Hid (type_of% S0) := S0
  have cx0 := S0.x.cell
  have HKK : Hid (∀ s, isS kk s = cwB r.kd r.st s) := hkk
  have hc := rtext_any R0 0 0 (by omega) (by omega)
  have hcw := rCodeWell_any r.kd r.st
  have s5 : (r.st != 4) = true := by simp only [bne, s4, Bool.not_false]
  clear hkk
  have HD : Hid (w.heap.size + 1 + 1 = ((w.alloc (.cells (#[.int .i64 r.kd, .string r.ct, .slice r.tp r.tn r.tc, .bool r.e, .int .i64 r.a, .int .i64 r.p, .int .i64 r.nu, .int .i64 r.tk, .int .i64 r.st, .string r.cd, .slice r.cp r.cn r.cc, .slice r.ap r.an r.ac]) 26)).alloc (.cells zRC 26)).heap.size) := by simp [Hid, World.size_alloc]
  clear h hd hN hl S0 R0
  go_enter Tryz.func28, Tryz.ntmps28
  go_wp2_with fail
  refine hc.mono ?_
  rintro _ X1 ⟨a, m, k, l, q, p', y, rfl, H1⟩
  have HS1 : Hid (RdS w X1 N db po r (#[.int .i64 r.kd, .string r.ct, .slice r.tp r.tn r.tc, .bool r.e, .int .i64 r.a, .int .i64 r.p, .int .i64 r.nu, .int .i64 r.tk, .int .i64 r.st, .string r.cd, .slice r.cp r.cn r.cc, .slice r.ap r.an r.ac])) := HS0.out.off H1.out.2.2.2.2.1
  have cx := HS1.out.x.cell
  have fx := HS1.out.x.free
  have dy := HS1.out.z.cell
  have ey := HS1.out.z.free
  obtain ⟨S, hS⟩ : ∃ S, strOf l = S := ⟨_, rfl⟩
  have hcv : ∀ c, _ := fun c => run_conv_bytes (c := c) (BRow.byts H1.out.2.1)
  rw [hS] at hcv
  have HSS : Hid (strOf l = S ∧ S.size = m) := ⟨hS, by rw [← hS, strOf_size]; exact H1.out.2.2.1⟩
  have o2 : Off (fun q => q = w.heap.size) X1 (X1.setCell ⟨w.heap.size, 9, none⟩ (.string S)) := Off.setCell (P := fun q => q = w.heap.size) (p := ⟨w.heap.size, 9, none⟩) (Off.refl _ X1) rfl _
  have HX2 : Hid (Off (fun q => q = w.heap.size) X1 (X1.setCell ⟨w.heap.size, 9, none⟩ (.string S)) ∧ Box (X1.setCell ⟨w.heap.size, 9, none⟩ (.string S)) w.heap.size #[.int .i64 r.kd, .string r.ct, .slice r.tp r.tn r.tc, .bool r.e, .int .i64 r.a, .int .i64 r.p, .int .i64 r.nu, .int .i64 r.tk, .int .i64 r.st, .string S, .slice r.cp r.cn r.cc, .slice r.ap r.an r.ac] ∧ Box (X1.setCell ⟨w.heap.size, 9, none⟩ (.string S)) (w.heap.size + 1) zRC ∧ RRd (X1.setCell ⟨w.heap.size, 9, none⟩ (.string S)) db po c bs p' y) :=
    ⟨o2, HS1.out.x.pPut (j := 9) (by simp) (.string S), HS1.out.z.pOff (p := ⟨w.heap.size, 9, none⟩) (by simp) _, H1.out.1.off o2 (by have := HS1.out.hd; have := HS1.out.hN; omega) (fun y hy => by have := HS1.out.pl y hy; omega)⟩
  obtain ⟨xb, hxb⟩ : ∃ n, w.heap.size = n := ⟨_, rfl⟩
  have HXB : Hid (w.heap.size = xb) := hxb
  rw [hxb] at cx fx dy ey HX2 ⊢
  clear hc cx0 hxb hS o2
  go_wp2_with fail
  refine (hcw S _).mono ?_
  rintro _ w2 ⟨rfl, hw⟩
  subst w2
  clear hcw hcv cx fx dy ey
  generalize X1.setCell ⟨xb, 9, none⟩ (.string S) = X2 at HX2 ⊢
  cases hb : cwB r.kd r.st S with
  | true =>
    have HE : Hid (∀ W', Off (fun q => q = xb ∨ q = xb + 1) X2 W' → RrQ w N db po c bs p r (.str 9 ⟨#[]⟩ 0 0 kk) (.returned (.agg #[.int .i64 r.kd, .string r.ct, .slice r.tp r.tn r.tc, .bool r.e, .int .i64 r.a, .int .i64 r.p, .int .i64 r.nu, .int .i64 r.tk, .int .i64 r.st, .string S, .slice r.cp r.cn r.cc, .slice r.ap r.an r.ac])) W') := fun W' hw => by
      rw [← HXB.out] at hw
      have hw1 : Off (fun q => q = w.heap.size ∨ q = w.heap.size + 1) X1 W' := (HX2.out.1.mono fun _ g => Or.inl (by rw [HXB.out]; exact g)).join hw fun _ _ g => g
      refine rd_fin (r' := { r with cd := S }) HS1.out.hd HS1.out.hN HS1.out.pl H1.out.1 HS1.out.o hw1 ?_
      rcases H1.out.2.2.2.2.2 with ⟨h1, h2, h3, h4⟩ | ⟨e, h1, h2, h3⟩
      · refine Or.inl ⟨?_, h4, fun o => ⟨(HS1.out.l.off o HS1.out.hd).t, (HS1.out.l.off o HS1.out.hd).c, (HS1.out.l.off o HS1.out.hd).a⟩⟩
        have hs : rStr (isS kk) bs p 0 0 = .ok S := by
          unfold rStr
          rw [h1]
          simp only [HSS.out.1]
          exact if_pos (by rw [HKK.out]; exact hb)
        simp only [rdFd]
        rw [hs, h3, ← HSS.out.2]
        rfl
      · refine Or.inr ⟨e, ?_, h2⟩
        have hs : rStr (isS kk) bs p 0 0 = .error e := by
          unfold rStr
          rw [h1]
        simp only [rdFd]
        rw [hs]
    have cx := HX2.out.2.1.cell
    have dy := HX2.out.2.2.1.cell
    have ey := HX2.out.2.2.1.free
    clear hb
    go_wp2_with fail
    refine bodyPost_ret ?_ rfl (HE.out _ ?_)
    · simp [results, Tryz.results28, go_sem, dy]
    · iterate 12 (refine Off.setCell (P := fun q => q = xb ∨ q = xb + 1) ?_ (Or.inr rfl) _)
      exact Off.refl _ _
  | false =>
    have hf := rfault_any HX2.out.2.2.2 q
    have HE : Hid (∀ X3 W', RRd X3 db po c bs p' (orX y q) → Off (fun g => g = db) X2 X3 → Off (fun q => q = xb ∨ q = xb + 1) X3 W' → RrQ w N db po c bs p r (.str 9 ⟨#[]⟩ 0 0 kk) (.returned (.agg #[.int .i64 r.kd, .string r.ct, .slice r.tp r.tn r.tc, .bool r.e, .int .i64 r.a, .int .i64 r.p, .int .i64 r.nu, .int .i64 r.tk, .int .i64 r.st, .string S, .slice r.cp r.cn r.cc, .slice r.ap r.an r.ac])) W') := fun X3 W' hR3 ho3 hw => by
      rw [← HXB.out] at hw
      have hw1 : Off (fun g => g = db) w X3 := (HS1.out.o.join HX2.out.1 (fun k hk g => by have := HXB.out; omega)).join ho3 fun _ _ g => g
      refine rd_fin (r' := { r with cd := S }) HS1.out.hd HS1.out.hN HS1.out.pl hR3 hw1 hw ?_
      rcases H1.out.2.2.2.2.2 with ⟨h1, h2, h3, h4⟩ | ⟨e, h1, h2, h3⟩
      · refine Or.inr ⟨p + 4, ?_, by rw [h4, h2]; rfl⟩
        have hs : rStr (isS kk) bs p 0 0 = .error (p + 4) := by
          unfold rStr
          rw [h1]
          simp only [HSS.out.1]
          exact if_neg (by rw [HKK.out, hb]; decide)
        simp only [rdFd]
        rw [hs]
      · refine Or.inr ⟨e, ?_, by rw [h2]; rfl⟩
        have hs : rStr (isS kk) bs p 0 0 = .error e := by
          unfold rStr
          rw [h1]
        simp only [rdFd]
        rw [hs]
    have HN3 : Hid (∀ X3, Off (fun g => g = db) X2 X3 → Box X3 xb #[.int .i64 r.kd, .string r.ct, .slice r.tp r.tn r.tc, .bool r.e, .int .i64 r.a, .int .i64 r.p, .int .i64 r.nu, .int .i64 r.tk, .int .i64 r.st, .string S, .slice r.cp r.cn r.cc, .slice r.ap r.an r.ac] ∧ Box X3 (xb + 1) zRC) := fun X3 ho => ⟨HX2.out.2.1.off ho (by have := HS1.out.hd; have := HS1.out.hN; have := HXB.out; omega), HX2.out.2.2.1.off ho (by have := HS1.out.hd; have := HS1.out.hN; have := HXB.out; omega)⟩
    clear hb
    go_wp2_with fail
    refine hf.mono ?_
    rintro _ X3 ⟨rfl, H3⟩
    have cx := (HN3.out _ H3.out.2).1.cell
    have dy := (HN3.out _ H3.out.2).2.cell
    have ey := (HN3.out _ H3.out.2).2.free
    clear hf
    go_wp2_with fail
    refine bodyPost_ret ?_ rfl (HE.out X3 _ H3.out.1 H3.out.2 ?_)
    · simp [results, Tryz.results28, go_sem, dy]
    · iterate 12 (refine Off.setCell (P := fun q => q = xb ∨ q = xb + 1) ?_ (Or.inr rfl) _)
      exact Off.refl _ _
end Go.Proofs.YtdjjologpodnkaaGreatDoor

/-
  The document's reading of field 9.
-/
namespace Go.Proofs.YtdjjologpodnkaaGreatDoor
open Go.RowKit

set_option maxRecDepth 100000 in
set_option maxHeartbeats 4000000 in
theorem rread_9 {w : World} {N db : Nat} {po : Option Addr} {c : Nat} {bs : List Int} {p : Nat} (r : Rec) (h : RRd w db po c bs p none) (hd : db < N) (hN : N ≤ w.heap.size) (hl : RL w N r) : Calls Tryz.prog 28 #[.pointer (some ⟨db, 0, none⟩), .agg #[.int .i64 r.kd, .string r.ct, .slice r.tp r.tn r.tc, .bool r.e, .int .i64 r.a, .int .i64 r.p, .int .i64 r.nu, .int .i64 r.tk, .int .i64 r.st, .string r.cd, .slice r.cp r.cn r.cc, .slice r.ap r.an r.ac], .int .i64 9] w (RrQ w N db po c bs p r (.byt 10 none 0 0 [] 0 2048)) := by
  obtain ⟨S0, R0⟩ := RdS.start h hd hN hl
  have HS0 : Hid (type_of% S0) := S0
  have cx0 := S0.x.cell
  have hc := rtext_any R0 0 2048 (by omega) (by omega)
  have HD : Hid (w.heap.size + 1 + 1 = ((w.alloc (.cells (#[.int .i64 r.kd, .string r.ct, .slice r.tp r.tn r.tc, .bool r.e, .int .i64 r.a, .int .i64 r.p, .int .i64 r.nu, .int .i64 r.tk, .int .i64 r.st, .string r.cd, .slice r.cp r.cn r.cc, .slice r.ap r.an r.ac]) 26)).alloc (.cells zRC 26)).heap.size) := by simp [Hid, World.size_alloc]
  clear h hd hN hl S0 R0
  go_enter Tryz.func28, Tryz.ntmps28
  go_wp2_with fail
  refine hc.mono ?_
  rintro _ X1 ⟨a, m, k, l, q, p', y, rfl, H1⟩
  have HS1 : Hid (RdS w X1 N db po r (#[.int .i64 r.kd, .string r.ct, .slice r.tp r.tn r.tc, .bool r.e, .int .i64 r.a, .int .i64 r.p, .int .i64 r.nu, .int .i64 r.tk, .int .i64 r.st, .string r.cd, .slice r.cp r.cn r.cc, .slice r.ap r.an r.ac])) := HS0.out.off H1.out.2.2.2.2.1
  have cx := HS1.out.x.cell
  have fx := HS1.out.x.free
  have dy := HS1.out.z.cell
  have ey := HS1.out.z.free
  have HE : Hid (∀ W', Off (fun q => q = w.heap.size ∨ q = w.heap.size + 1) X1 W' → RrQ w N db po c bs p r (.byt 10 none 0 0 [] 0 2048) (.returned (.agg #[.int .i64 r.kd, .string r.ct, .slice r.tp r.tn r.tc, .bool r.e, .int .i64 r.a, .int .i64 r.p, .int .i64 r.nu, .int .i64 r.tk, .int .i64 r.st, .string r.cd, .slice a m k, .slice r.ap r.an r.ac])) W') := fun W' hw => by
    refine rd_fin (r' := { r with cp := a, cn := m, cc := k, cx := l }) HS1.out.hd HS1.out.hN HS1.out.pl H1.out.1 HS1.out.o hw ?_
    rcases H1.out.2.2.2.2.2 with ⟨h1, h2, h3, h4⟩ | ⟨e, h1, h2, h3⟩
    · refine Or.inl ⟨?_, h4, fun o => ⟨(HS1.out.l.off o HS1.out.hd).t, new_row (by rw [HD.out]; exact H1.out.2.1) HS1.out.hN hw, (HS1.out.l.off o HS1.out.hd).a⟩⟩
      simp only [rdFd]
      rw [h1, h3]
      simp only [H1.out.2.2.1]
      have hm := H1.out.2.2.1
      subst hm
      rfl
    · refine Or.inr ⟨e, ?_, h2⟩
      simp only [rdFd]
      rw [h1]
  obtain ⟨xb, hxb⟩ : ∃ n, w.heap.size = n := ⟨_, rfl⟩
  rw [hxb] at cx fx dy ey HE ⊢
  clear hc cx0 hxb
  go_wp2_with fail
  refine bodyPost_ret ?_ rfl (HE.out _ ?_)
  · simp [results, Tryz.results28, go_sem, dy]
  · iterate 12 (refine Off.setCell (P := fun q => q = xb ∨ q = xb + 1) ?_ (Or.inr rfl) _)
    refine Off.setCell (P := fun q => q = xb ∨ q = xb + 1) ?_ (Or.inl rfl) _
    exact Off.refl _ _
end Go.Proofs.YtdjjologpodnkaaGreatDoor

/-
  The document's reading of field 10.
-/
namespace Go.Proofs.YtdjjologpodnkaaGreatDoor
open Go.RowKit

set_option maxRecDepth 100000 in
set_option maxHeartbeats 4000000 in
theorem rread_10 {w : World} {N db : Nat} {po : Option Addr} {c : Nat} {bs : List Int} {p : Nat} (r : Rec) (h : RRd w db po c bs p none) (hd : db < N) (hN : N ≤ w.heap.size) (hl : RL w N r) : Calls Tryz.prog 28 #[.pointer (some ⟨db, 0, none⟩), .agg #[.int .i64 r.kd, .string r.ct, .slice r.tp r.tn r.tc, .bool r.e, .int .i64 r.a, .int .i64 r.p, .int .i64 r.nu, .int .i64 r.tk, .int .i64 r.st, .string r.cd, .slice r.cp r.cn r.cc, .slice r.ap r.an r.ac], .int .i64 10] w (RrQ w N db po c bs p r (.byt 11 none 0 0 [] 0 2048)) := by
  obtain ⟨S0, R0⟩ := RdS.start h hd hN hl
  have HS0 : Hid (type_of% S0) := S0
  have cx0 := S0.x.cell
  have hc := rtext_any R0 0 2048 (by omega) (by omega)
  have HD : Hid (w.heap.size + 1 + 1 = ((w.alloc (.cells (#[.int .i64 r.kd, .string r.ct, .slice r.tp r.tn r.tc, .bool r.e, .int .i64 r.a, .int .i64 r.p, .int .i64 r.nu, .int .i64 r.tk, .int .i64 r.st, .string r.cd, .slice r.cp r.cn r.cc, .slice r.ap r.an r.ac]) 26)).alloc (.cells zRC 26)).heap.size) := by simp [Hid, World.size_alloc]
  clear h hd hN hl S0 R0
  go_enter Tryz.func28, Tryz.ntmps28
  go_wp2_with fail
  refine hc.mono ?_
  rintro _ X1 ⟨a, m, k, l, q, p', y, rfl, H1⟩
  have HS1 : Hid (RdS w X1 N db po r (#[.int .i64 r.kd, .string r.ct, .slice r.tp r.tn r.tc, .bool r.e, .int .i64 r.a, .int .i64 r.p, .int .i64 r.nu, .int .i64 r.tk, .int .i64 r.st, .string r.cd, .slice r.cp r.cn r.cc, .slice r.ap r.an r.ac])) := HS0.out.off H1.out.2.2.2.2.1
  have cx := HS1.out.x.cell
  have fx := HS1.out.x.free
  have dy := HS1.out.z.cell
  have ey := HS1.out.z.free
  have HE : Hid (∀ W', Off (fun q => q = w.heap.size ∨ q = w.heap.size + 1) X1 W' → RrQ w N db po c bs p r (.byt 11 none 0 0 [] 0 2048) (.returned (.agg #[.int .i64 r.kd, .string r.ct, .slice r.tp r.tn r.tc, .bool r.e, .int .i64 r.a, .int .i64 r.p, .int .i64 r.nu, .int .i64 r.tk, .int .i64 r.st, .string r.cd, .slice r.cp r.cn r.cc, .slice a m k])) W') := fun W' hw => by
    refine rd_fin (r' := { r with ap := a, an := m, ac := k, ax := l }) HS1.out.hd HS1.out.hN HS1.out.pl H1.out.1 HS1.out.o hw ?_
    rcases H1.out.2.2.2.2.2 with ⟨h1, h2, h3, h4⟩ | ⟨e, h1, h2, h3⟩
    · refine Or.inl ⟨?_, h4, fun o => ⟨(HS1.out.l.off o HS1.out.hd).t, (HS1.out.l.off o HS1.out.hd).c, new_row (by rw [HD.out]; exact H1.out.2.1) HS1.out.hN hw⟩⟩
      simp only [rdFd]
      rw [h1, h3]
      simp only [H1.out.2.2.1]
      have hm := H1.out.2.2.1
      subst hm
      rfl
    · refine Or.inr ⟨e, ?_, h2⟩
      simp only [rdFd]
      rw [h1]
  obtain ⟨xb, hxb⟩ : ∃ n, w.heap.size = n := ⟨_, rfl⟩
  rw [hxb] at cx fx dy ey HE ⊢
  clear hc cx0 hxb
  go_wp2_with fail
  refine bodyPost_ret ?_ rfl (HE.out _ ?_)
  · simp [results, Tryz.results28, go_sem, dy]
  · iterate 12 (refine Off.setCell (P := fun q => q = xb ∨ q = xb + 1) ?_ (Or.inr rfl) _)
    refine Off.setCell (P := fun q => q = xb ∨ q = xb + 1) ?_ (Or.inl rfl) _
    exact Off.refl _ _
end Go.Proofs.YtdjjologpodnkaaGreatDoor

/-
  The document's reading of a field, whichever; what is not named is passed over.
-/
namespace Go.Proofs.YtdjjologpodnkaaGreatDoor
open Go.RowKit

theorem RrQ.conv {w : World} {N db : Nat} {po : Option Addr} {c : Nat} {bs : List Int} {p : Nat} {r : Rec} {F G : Fd} (hF : rdFd bs p r.bare F = rdFd bs p r.bare G) {e : Ending} {w' : World} (h : RrQ w N db po c bs p r F e w') : RrQ w N db po c bs p r G e w' := by
  obtain ⟨r', p', y, he, H⟩ := h
  refine ⟨r', p', y, he, H.out.1, H.out.2.1, ?_⟩
  have h3 := H.out.2.2
  rw [hF] at h3
  exact h3
/-- A field that is not named says nothing. -/
theorem fd_non (bs : List Int) (p : Nat) (r : Rec) (k : Nat) (hk : r.kd = k) (h1 : 1 ≤ k) (h8 : k ≤ 8) {f : Nat} (h2 : 2 ≤ f) (h10 : f ≤ 10) (hn : nmB k f = false) : rdFd bs p r.bare (fdOf r.bare (f - 1)) = .ok (r.bare, p) := by
  have hkb : r.bare.kd = k := hk
  rcases nine h8 with rfl | rfl | rfl | rfl | rfl | rfl | rfl | rfl | rfl
  · omega
  all_goals
    rcases nine2 h2 h10 with rfl | rfl | rfl | rfl | rfl | rfl | rfl | rfl | rfl
  all_goals (first | (exfalso; revert hn; decide) | skip)
  all_goals (simp only [fdOf, hkb, Nat.reduceSub])
  all_goals rfl
set_option maxHeartbeats 1000000 in
theorem rread_any {w : World} {N db : Nat} {po : Option Addr} {c : Nat} {bs : List Int} {p : Nat} (r : Rec) (h : RRd w db po c bs p none) (hd : db < N) (hN : N ≤ w.heap.size) (hl : RL w N r) (k : Nat) (hk : r.kd = k) (h1 : 1 ≤ k) (h8 : k ≤ 8) {f : Nat} (h2 : 2 ≤ f) (h10 : f ≤ 10) (hn : nmB k f = true) :
    Calls Tryz.prog 28 #[.pointer (some ⟨db, 0, none⟩), .agg #[.int .i64 r.kd, .string r.ct, .slice r.tp r.tn r.tc, .bool r.e, .int .i64 r.a, .int .i64 r.p, .int .i64 r.nu, .int .i64 r.tk, .int .i64 r.st, .string r.cd, .slice r.cp r.cn r.cc, .slice r.ap r.an r.ac], .int .i64 (f : Int)] w (RrQ w N db po c bs p r (fdOf r.bare (f - 1))) := by
  have hkb : r.bare.kd = k := hk
  have hsb : r.bare.st = r.st := rfl
  have key : ∀ {F : Fd} (_ : rdFd bs p r.bare F = rdFd bs p r.bare (fdOf r.bare (f - 1))), Calls Tryz.prog 28 #[.pointer (some ⟨db, 0, none⟩), .agg #[.int .i64 r.kd, .string r.ct, .slice r.tp r.tn r.tc, .bool r.e, .int .i64 r.a, .int .i64 r.p, .int .i64 r.nu, .int .i64 r.tk, .int .i64 r.st, .string r.cd, .slice r.cp r.cn r.cc, .slice r.ap r.an r.ac], .int .i64 (f : Int)] w (RrQ w N db po c bs p r F) → Calls Tryz.prog 28 #[.pointer (some ⟨db, 0, none⟩), .agg #[.int .i64 r.kd, .string r.ct, .slice r.tp r.tn r.tc, .bool r.e, .int .i64 r.a, .int .i64 r.p, .int .i64 r.nu, .int .i64 r.tk, .int .i64 r.st, .string r.cd, .slice r.cp r.cn r.cc, .slice r.ap r.an r.ac], .int .i64 (f : Int)] w (RrQ w N db po c bs p r (fdOf r.bare (f - 1))) := fun hF hc => hc.mono fun _ _ q => q.conv hF
  rcases nine2 h2 h10 with rfl | rfl | rfl | rfl | rfl | rfl | rfl | rfl | rfl
  · refine key ?_ (rread_2 r h hd hN hl)
    rcases nine h8 with rfl | rfl | rfl | rfl | rfl | rfl | rfl | rfl | rfl
    all_goals (first | omega | (exfalso; revert hn; decide) | (simp only [fdOf, hkb, Nat.reduceSub]; rfl))
  · refine key ?_ (rread_3 r h hd hN hl)
    rcases nine h8 with rfl | rfl | rfl | rfl | rfl | rfl | rfl | rfl | rfl
    all_goals (first | omega | (exfalso; revert hn; decide) | (simp only [fdOf, hkb, Nat.reduceSub]; rfl))
  · refine key ?_ (rread_4 r h hd hN hl)
    rcases nine h8 with rfl | rfl | rfl | rfl | rfl | rfl | rfl | rfl | rfl
    all_goals (first | omega | (exfalso; revert hn; decide) | (simp only [fdOf, hkb, Nat.reduceSub]; rfl))
  · refine key ?_ (rread_5 r h hd hN hl)
    rcases nine h8 with rfl | rfl | rfl | rfl | rfl | rfl | rfl | rfl | rfl
    all_goals (first | omega | (exfalso; revert hn; decide) | (simp only [fdOf, hkb, hk, lnI, Nat.reduceSub]; rfl))
  · refine key ?_ (rread_6 r h hd hN hl)
    rcases nine h8 with rfl | rfl | rfl | rfl | rfl | rfl | rfl | rfl | rfl
    all_goals (first | omega | (exfalso; revert hn; decide) | (simp only [fdOf, hkb, Nat.reduceSub]; rfl))
  · refine key ?_ (rread_7 r h hd hN hl)
    rcases nine h8 with rfl | rfl | rfl | rfl | rfl | rfl | rfl | rfl | rfl
    all_goals (first | omega | (exfalso; revert hn; decide) | (simp only [fdOf, hkb, Nat.reduceSub]; rfl))
  · by_cases h6 : k = 6
    · subst h6
      refine key ?_ (rread_8a r h hd hN hl 1 (fun s => by simp only [cwB, hk]; rfl) (by rw [hk]; rfl))
      simp only [fdOf, hkb, Nat.reduceSub]
      rfl
    · have h4 : k = 4 := by
        rcases nine h8 with rfl | rfl | rfl | rfl | rfl | rfl | rfl | rfl | rfl
        all_goals (first | rfl | omega | (exfalso; revert hn; decide))
      subst h4
      cases hs : (r.st == 4) with
      | true =>
        refine key ?_ (rread_8b r h hd hN hl 2 (fun s => by simp only [cwB, hk, hs]; rfl) (by rw [hk]; rfl) hs)
        simp only [fdOf, hkb, hsb, hs, Nat.reduceSub]
        rfl
      | false =>
        refine key ?_ (rread_8c r h hd hN hl 3 (fun s => by simp only [cwB, hk, hs]; rfl) (by rw [hk]; rfl) hs)
        simp only [fdOf, hkb, hsb, hs, Nat.reduceSub]
        rfl
  · refine key ?_ (rread_9 r h hd hN hl)
    rcases nine h8 with rfl | rfl | rfl | rfl | rfl | rfl | rfl | rfl | rfl
    all_goals (first | omega | (exfalso; revert hn; decide) | (simp only [fdOf, hkb, Nat.reduceSub]; rfl))
  · refine key ?_ (rread_10 r h hd hN hl)
    rcases nine h8 with rfl | rfl | rfl | rfl | rfl | rfl | rfl | rfl | rfl
    all_goals (first | omega | (exfalso; revert hn; decide) | (simp only [fdOf, hkb, Nat.reduceSub]; rfl))
end Go.Proofs.YtdjjologpodnkaaGreatDoor
