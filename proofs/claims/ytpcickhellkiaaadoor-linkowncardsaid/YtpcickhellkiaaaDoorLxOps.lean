/-
  Lists of calls that came in; both links whatever they hold.
-/
import Derived.Test.YtpcickhellkiaaaDoorLxPlA
namespace Go.Proofs.YtpcickhellkiaaaDoor
open Go.RowKit

/-- A call, where it lies. -/
def OpAt (W : World) (b o : Nat) (kd sd ix nn : Int) (po : Option Addr) (m c : Nat) : Prop := W.cell? ⟨b, o, none⟩ = some (.int .i64 kd) ∧ W.cell? ⟨b, o + 1, none⟩ = some (.int .i64 sd) ∧ W.cell? ⟨b, o + 2, none⟩ = some (.int .i64 ix) ∧ W.cell? ⟨b, o + 3, none⟩ = some (.int .i64 nn) ∧ W.cell? ⟨b, o + 4, none⟩ = some (.slice po m c)
/-- A list of calls. -/
structure Ops (W : World) (ao : Option Addr) (n : Nat) : Prop where
  at_ : ∀ i, i < n → ∃ b o kd sd ix nn po m c bs, ao = some ⟨b, o, none⟩ ∧ b < W.heap.size ∧ OpAt W b (o + i * 5) kd sd ix nn po m c ∧ Byts W po m bs ∧ m + 90 ≤ 140737488355328
  len : n ≤ 140737488355328
theorem OpAt.below {W w : World} {b o : Nat} {kd sd ix nn : Int} {po : Option Addr} {m c : Nat} (h : OpAt W b o kd sd ix nn po m c) (hl : b < W.heap.size) (hb : Below W.heap.size W w) : OpAt w b o kd sd ix nn po m c := by
  have e : ∀ j, w.cell? ⟨b, j, none⟩ = W.cell? ⟨b, j, none⟩ := fun j => hb.cell (p := ⟨b, j, none⟩) hl
  unfold OpAt
  simp only [e]
  exact h
/-- Both links, holding the same. -/
def PB (W : World) (l : Option Addr) (rb : Nat) (X : World) : Prop := ∃ F G σ, PR W X l rb F G σ σ ∧ SOk σ
section
variable {W X Y : World} {l : Option Addr} {rb : Nat}
theorem PB.b (h : PB W l rb X) : Below W.heap.size W X := by
  obtain ⟨F, G, σ, h1, _⟩ := h
  exact h1.b
theorem PB.below (h : PB W l rb X) (hb : Below X.heap.size X Y) : PB W l rb Y := by
  obtain ⟨F, G, σ, h1, h2⟩ := h
  exact ⟨F, G, σ, h1.below hb, h2⟩
theorem bstands (h : PB W l rb X) (s : Int) : Calls Tryd.prog 25 #[.pointer l, .pointer (some ⟨rb, 0, none⟩), .int .i64 s] X fun e w' => e = .returned (.bool true) ∧ Hid (PB W l rb w') := by
  have h0 := h
  obtain ⟨F, G, σ, h1, h2⟩ := h
  exact (stands_any h1 h2 s).mono fun e w' ⟨e1, e2⟩ => ⟨e1, h0.below e2⟩
theorem bplays (h : PB W l rb X) (hE : ErrType W) (kd sd ix nn : Int) {po : Option Addr} {m c : Nat} {bs : List Int} (hb : Byts W po m bs) (hm : m + 90 ≤ 140737488355328) : Calls Tryd.prog 24 #[.pointer l, .pointer (some ⟨rb, 0, none⟩), .agg #[.int .i64 kd, .int .i64 sd, .int .i64 ix, .int .i64 nn, .slice po m c]] X fun e w' => e = .returned (.bool true) ∧ Hid (PB W l rb w') := by
  obtain ⟨F, G, σ, h1, h2⟩ := h
  refine (plays_any h1 h2 hE kd sd ix nn hb hm).mono fun e w' ⟨e1, e2⟩ => ⟨e1, ?_⟩
  obtain ⟨F', G', q1, _⟩ := e2.out
  exact ⟨F', G', _, q1, h2.op kd sd ix nn bs⟩
end
theorem sg0_ok : SOk sg0 := fun c e => by
  injection e with e
  subst e
  exact ⟨⟨by simp, by simp, by simp, by simp⟩, ⟨by simp, by simp, by simp, by simp⟩⟩
/-- Both, just made. -/
theorem PB.made {W w1 w2 : World} {lb : Nat} (h : PS W (some ⟨lb, 0, none⟩) sg0 w1) (hb : Below w1.heap.size w1 w2) : PB W (some ⟨lb, 0, none⟩) w2.heap.size (w2.alloc (.cells #[.bool true, .slice none 0 0, .int .i64 (-1), .slice none 0 0, .int .i64 (-1)] 59)) := by
  have h2 := h.below hb
  have b3 := (Below.refl w2.heap.size w2).alloc (Nat.le_refl _) (.cells #[.bool true, .slice none 0 0, .int .i64 (-1), .slice none 0 0, .int .i64 (-1)] 59)
  have hl := h2.b.size
  obtain ⟨F, k1, k2, k3, k4⟩ := h2
  have hlt := k1.lt
  refine ⟨F, fun _ => False, sg0, ⟨k1.below b3, ⟨wy0, wy0, RLk.new (heap_alloc_new w2 _), rfl, rfl, ⟨fun g hg => by simp [wyOwn, wy0, Value.ownBlock] at hg, fun p hp => (List.not_mem_nil hp).elim⟩, ⟨fun g hg => by simp [wyOwn, wy0, Value.ownBlock] at hg, fun p hp => (List.not_mem_nil hp).elim⟩, fun b => False.elim⟩, fun b _ => id, fun e => ?_, fun lb' e => ⟨id, ?_, k2 lb' e⟩, fun b hb => ?_, below_then k4 b3⟩, sg0_ok⟩
  · have := hlt.1 _ e; omega
  · have := (hlt.2 lb' e).1; omega
  · rcases hb with e | e | e
    · exact k3 b e
    · exact e.elim
    · omega
set_option maxRecDepth 100000 in
set_option maxHeartbeats 4000000 in
theorem plays_law (ao : Option Addr) (cap n : Nat) (W : World) (hE : ErrType W) (hO : Ops W ao n) : Calls Tryd.prog 7 #[.slice ao n cap] W fun e w' => e = .returned (.bool true) ∧ Below W.heap.size W w' := by
  have HE : Hid (ErrType W ∧ Ops W ao n) := ⟨hE, hO⟩
  have hn := hO.len
  have HN := kNew W
  obtain ⟨lb, hlb⟩ : ∃ lb, W.heap.size = lb := ⟨_, rfl⟩
  rw [hlb] at HN
  clear hE hO hlb
  go_enter Tryd.func7, Tryd.ntmps7
  go_wp2_with fail
  refine HN.mono ?_
  rintro _ w1 ⟨rfl, H1⟩
  have HR := rnew_any w1
  unfold lk0 at HR
  clear HN
  go_wp2_with fail
  refine HR.mono ?_
  rintro _ w2 ⟨rfl, hb2⟩
  have H2 : Hid (type_of% (PB.made H1.out.1 hb2)) := PB.made H1.out.1 hb2
  clear hb2 H1 HR
  go_wp2_with fail
  generalize hw3 : w2.alloc (.cells #[.bool true, .slice none 0 0, .int .i64 (-1), .slice none 0 0, .int .i64 (-1)] 59) = w3 at *
  clear hw3
  generalize w2.heap.size = rb at *
  refine (bstands H2.out 0).mono ?_
  rintro _ w4 ⟨rfl, H4⟩
  clear H2
  go_wp2_with fail
  refine (bstands H4.out 1).mono ?_
  rintro _ w5 ⟨rfl, H5⟩
  clear H4
  go_wp2_with fail
  go_loopw [5] (fun t5 wx => ∃ i : Nat, i ≤ n ∧ t5 = .int .i64 i ∧ Hid (PB W (some ⟨lb, 0, none⟩) rb wx)) (fun t5 _ => n - (intOf t5).toNat)
  case atStart => exact ⟨0, Nat.zero_le _, rfl, H5⟩
  case round =>
    obtain ⟨i, hi, rfl, HI⟩ := hrel
    by_cases hlt : i < n
    · have hlt1 : (i : Int) < n := by omega
      obtain ⟨b, o, kd, sd, ix, nn, po, m, c, bs, ea, hbl, hat, hby, hm⟩ := HE.out.2.at_ i hlt
      subst ea
      have HA : Hid (Byts W po m bs ∧ OpAt W b (o + i * 5) kd sd ix nn po m c ∧ b < W.heap.size) := ⟨hby, hat, hbl⟩
      obtain ⟨c0, c1, c2, c3, c4⟩ := hat.below hbl HI.out.b
      clear hby hat hbl
      go_wp2_with fail
      refine (bplays HI.out HE.out.1 kd sd ix nn HA.out.1 hm).mono ?_
      rintro _ w6 ⟨rfl, H6⟩
      clear c0 c1 c2 c3 c4 HI
      obtain ⟨c0, c1, c2, c3, c4⟩ := HA.out.2.1.below HA.out.2.2 H6.out.b
      go_wp2_with fail
      refine (bstands H6.out sd).mono ?_
      rintro _ w7 ⟨rfl, H7⟩
      clear H6 c0 c1 c2 c3 c4
      go_wp2_with fail
      refine (bstands H7.out 0).mono ?_
      rintro _ w8 ⟨rfl, H8⟩
      clear H7
      go_wp2_with fail
      refine (bstands H8.out 1).mono ?_
      rintro _ w9 ⟨rfl, H9⟩
      clear H8
      go_wp2_with fail
      go_roundw
      case rel => exact ⟨i + 1, hlt, by go_num, H9⟩
      case measure => simp [intOf]; omega
    · have hlt1 : ¬ (i : Int) < n := by omega
      go_wp2_with fail
      refine (anchor_true _ (errType_below HE.out.1 HI.out.b)).mono ?_
      rintro _ w6 ⟨rfl, hb6⟩
      have H6 : Hid (Below W.heap.size W w6) := below_then HI.out.b hb6
      clear hb6 HI
      go_wp2_with fail
      go_ret
      exact ⟨rfl, H6.out⟩
end Go.Proofs.YtpcickhellkiaaaDoor
