/-
  LinkNone, walked: a link that is nil, and a plain one.
-/
import Derived.Test.YtpcickhellkiaaaDoorLxOps
namespace Go.Proofs.YtpcickhellkiaaaDoor
open Go.RowKit

/-- The call's box, a plain link, the document's. -/
structure NS (W : World) (Z : Nat) (cs : Array Value) (X : World) : Prop where
  o : ∀ j, X.cell? ⟨Z, j, none⟩ = cs[j]?
  l : X.heap[Z + 1]? = some (.cells #[.slice none 0 0, .slice none 0 0, .bool false] 53 (0, 0))
  r : X.heap[Z + 1 + 1]? = some (.cells #[.bool false, .slice none 0 0, .int .i64 0, .slice none 0 0, .int .i64 0] 59 (0, 0))
  z : W.heap.size ≤ Z
  b : Below W.heap.size W X
section
variable {W X Y : World} {Z : Nat} {cs : Array Value} {l : Option Addr}
theorem NS.below (h : NS W Z cs X) (hb : Below X.heap.size X Y) : NS W Z cs Y := by
  have hl := blk_lt h.r
  exact ⟨fun j => (hb.cell (p := ⟨Z, j, none⟩) (by show Z < _; omega)).trans (h.o j), (hb.block (Z + 1) (by omega)).trans h.l, (hb.block (Z + 1 + 1) hl).trans h.r, h.z, below_then h.b hb⟩
theorem NS.pr (h : NS W Z cs X) (hl : l = none ∨ l = some ⟨Z + 1, 0, none⟩) : PR W X l (Z + 1 + 1) (fun _ => False) (fun _ => False) none none := by
  have hz := h.z
  refine ⟨⟨fun _ => id, ?_⟩, ⟨fun _ => id, h.r⟩, fun _ _ => id, id, fun lb e => ⟨id, ?_, ?_⟩, fun b hb => ?_, h.b⟩
  · rcases hl with e | e
    · exact Or.inl e
    · exact Or.inr ⟨Z + 1, e, h.l⟩
  · rcases hl with e' | e'
    · rw [e'] at e; cases e
    · rw [e'] at e; injection e with e; injection e with e; omega
  · rcases hl with e' | e'
    · rw [e'] at e; cases e
    · rw [e'] at e; injection e with e; injection e with e; omega
  · rcases hb with e | e | e
    · exact e.elim
    · exact e.elim
    · omega
theorem NS.after (h : NS W Z cs X) (hl : l = none ∨ l = some ⟨Z + 1, 0, none⟩) (hq : PRq W X l (Z + 1 + 1) (fun _ => False) (fun _ => False) none none Y) : NS W Z cs Y := by
  obtain ⟨F', G', h1, h2, h3, h4⟩ := hq
  have hr := blk_lt h.r
  have nz : ∀ q, q = Z → ¬ PRw l (Z + 1 + 1) (fun _ => False) q := fun q e g => by
    rcases g with g | g | g
    · exact g
    · omega
    · rcases hl with e' | e'
      · rw [e'] at g; cases g
      · rw [e'] at g; injection g with g; injection g with g; omega
  refine ⟨fun j => (h2.cell (p := ⟨Z, j, none⟩) (by show Z < _; omega) (nz Z rfl)).trans (h.o j), ?_, h1.rl.2, h.z, h1.b⟩
  rcases hl with e | e
  · refine (h2.block (Z + 1) (by omega) fun g => ?_).trans h.l
    rcases g with g | g | g
    · exact g
    · omega
    · rw [e] at g; cases g
  · rcases h1.pl.2 with g | ⟨lb, g, hb⟩
    · rw [e] at g; cases g
    · rw [e] at g; injection g with g; injection g with g; rw [g]; exact hb
theorem opS_none (kd sd ix nn : Int) (bs : List Int) : opS kd sd ix nn bs none = none := by
  unfold opS
  repeat' split
  all_goals rfl
theorem none_ok : SOk none := fun c e => by cases e
theorem nplays (h : NS W Z cs X) (hl : l = none ∨ l = some ⟨Z + 1, 0, none⟩) (hE : ErrType W) (kd sd ix nn : Int) {po : Option Addr} {m c : Nat} {bs : List Int} (hb : Byts W po m bs) (hm : m + 90 ≤ 140737488355328) : Calls Tryd.prog 24 #[.pointer l, .pointer (some ⟨Z + 1 + 1, 0, none⟩), .agg #[.int .i64 kd, .int .i64 sd, .int .i64 ix, .int .i64 nn, .slice po m c]] X fun e w' => e = .returned (.bool true) ∧ Hid (NS W Z cs w') := by
  refine (plays_any (h.pr hl) none_ok hE kd sd ix nn hb hm).mono fun e w' ⟨e1, e2⟩ => ⟨e1, ?_⟩
  have := e2.out
  rw [opS_none] at this
  exact h.after hl this
theorem nstands (h : NS W Z cs X) (hl : l = none ∨ l = some ⟨Z + 1, 0, none⟩) (s : Int) : Calls Tryd.prog 25 #[.pointer l, .pointer (some ⟨Z + 1 + 1, 0, none⟩), .int .i64 s] X fun e w' => e = .returned (.bool true) ∧ Hid (NS W Z cs w') :=
  (stands_any (h.pr hl) none_ok s).mono fun _ _ ⟨e1, e2⟩ => ⟨e1, h.below e2⟩
theorem NS.start (W : World) (cs : Array Value) : NS W W.heap.size cs (((W.alloc (.cells cs 45)).alloc (.cells #[.slice none 0 0, .slice none 0 0, .bool false] 53)).alloc (.cells #[.bool false, .slice none 0 0, .int .i64 0, .slice none 0 0, .int .i64 0] 59)) := by
  have b1 := (Below.refl W.heap.size W).alloc (Nat.le_refl _) (.cells cs 45)
  have b2 := b1.alloc b1.size (.cells #[.slice none 0 0, .slice none 0 0, .bool false] 53)
  have b3 := b2.alloc b2.size (.cells #[.bool false, .slice none 0 0, .int .i64 0, .slice none 0 0, .int .i64 0] 59)
  have e1 := heap_alloc_new (W.alloc (.cells cs 45)) (.cells #[.slice none 0 0, .slice none 0 0, .bool false] 53)
  have e2 := heap_alloc_new ((W.alloc (.cells cs 45)).alloc (.cells #[.slice none 0 0, .slice none 0 0, .bool false] 53)) (.cells #[.bool false, .slice none 0 0, .int .i64 0, .slice none 0 0, .int .i64 0] 59)
  have b4 := (Below.refl (W.heap.size + 1 + 1) ((W.alloc (.cells cs 45)).alloc (.cells #[.slice none 0 0, .slice none 0 0, .bool false] 53))).alloc (by simp) (.cells #[.bool false, .slice none 0 0, .int .i64 0, .slice none 0 0, .int .i64 0] 59)
  simp only [World.size_alloc] at e1 e2
  refine ⟨fun j => ?_, (b4.block (W.heap.size + 1) (by omega)).trans e1, e2, Nat.le_refl _, b3⟩
  rw [World.cell?_alloc_lt _ _ ⟨W.heap.size, j, none⟩ (by simp; omega), World.cell?_alloc_lt _ _ ⟨W.heap.size, j, none⟩ (by simp)]
  exact cell_new W cs _ j
end
set_option maxRecDepth 100000 in
set_option maxHeartbeats 4000000 in
theorem none_law (kd sd ix nn : Int) (po : Option Addr) (m c : Nat) (bs : List Int) (W : World) (hE : ErrType W) (hB : Byts W po m bs) (hm : m + 90 ≤ 140737488355328) : Calls Tryd.prog 6 #[.agg #[.int .i64 kd, .int .i64 sd, .int .i64 ix, .int .i64 nn, .slice po m c]] W fun e w' => e = .returned (.bool true) ∧ Below W.heap.size W w' := by
  have HE : Hid (ErrType W ∧ Byts W po m bs) := ⟨hE, hB⟩
  have H0 : Hid (type_of% (NS.start W #[.int .i64 kd, .int .i64 sd, .int .i64 ix, .int .i64 nn, .slice po m c])) := NS.start W _
  clear hE hB
  go_enter Tryd.func6, Tryd.ntmps6
  go_wp2_with fail
  refine (nplays H0.out (Or.inl rfl) HE.out.1 kd sd ix nn HE.out.2 hm).mono ?_
  rintro _ w1 ⟨rfl, H1⟩
  clear H0
  have c1 := H1.out.o
  go_wp2_with fail
  refine (nplays H1.out (Or.inr rfl) HE.out.1 kd sd ix nn HE.out.2 hm).mono ?_
  rintro _ w2 ⟨rfl, H2⟩
  clear H1 c1
  have c2 := H2.out.o
  go_wp2_with fail
  refine (nstands H2.out (Or.inl rfl) sd).mono ?_
  rintro _ w3 ⟨rfl, H3⟩
  clear H2 c2
  have c3 := H3.out.o
  go_wp2_with fail
  refine (nstands H3.out (Or.inr rfl) sd).mono ?_
  rintro _ w4 ⟨rfl, H4⟩
  clear H3 c3
  go_wp2_with fail
  refine (nstands H4.out (Or.inl rfl) 0).mono ?_
  rintro _ w5 ⟨rfl, H5⟩
  clear H4
  go_wp2_with fail
  refine (nstands H5.out (Or.inr rfl) 1).mono ?_
  rintro _ w6 ⟨rfl, H6⟩
  clear H5
  go_wp2_with fail
  refine (anchor_true _ (errType_below HE.out.1 H6.out.b)).mono ?_
  rintro _ w7 ⟨rfl, hb7⟩
  have H7 : Hid (Below W.heap.size W w7) := below_then H6.out.b hb7
  clear hb7 H6
  go_wp2_with fail
  go_ret
  exact ⟨rfl, H7.out⟩
end Go.Proofs.YtpcickhellkiaaaDoor
