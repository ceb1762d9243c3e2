/-
  SeqAnew.
-/
import Derived.Test.YtnabpjfdpelejaaDoorSqBegun
import Derived.Test.YtnabpjfdpelejaaDoorSqSendsLaw
namespace Go.Proofs.YtnabpjfdpelejaaDoor
open Go.RowKit

theorem newR_acc {e l n : Int} (h : newR e l = 0) : newR (accE e n) (accL e l n) = 0 := by
  unfold accE accL
  by_cases hk : okR e n
  · rw [if_pos hk, if_pos hk]; obtain ⟨⟨h1, h2⟩, _⟩ := hk; exact if_pos (by omega)
  · rw [if_neg hk, if_neg hk]; exact h
theorem Hid.mk' {p : Prop} (h : p) : Hid p := h
/-- Errors that lie from M on stay. -/
def EvK (M : Nat) (w w' : World) : Prop := ∀ ev c, Ev w M ev c → Ev w' M ev c
/-- Four counters and a block of the law's own, apart; what lies from M on is younger. -/
structure D4 (W w : World) (M s r t q ob : Nat) (cs : Array Value) (n e l n' e' l' : Int) : Prop where
  b1 : BR W w s r n e l
  b2 : BR W w t q n' e' l'
  ox : Box w ob cs
  st : s ≠ t
  sq : s ≠ q
  rt : r ≠ t
  rq : r ≠ q
  os : ob ≠ s
  or : ob ≠ r
  ot : ob ≠ t
  oq : ob ≠ q
  lt : s < M ∧ r < M ∧ t < M ∧ q < M
  le : M ≤ w.heap.size
section
variable {W w w' : World} {M s r t q ob : Nat} {cs : Array Value} {n e l n' e' l' x y : Int} {ev : Value}
theorem D4.atS (h : D4 W w M s r t q ob cs n e l n' e' l') (hs : Snd w' s x) (ho : Off (fun k => k = s) w w') : D4 W w' M s r t q ob cs x e l n' e' l' ∧ EvK M w w' :=
  ⟨⟨h.b1.atS hs ho, h.b2.offP ho (Ne.symm h.st) (Ne.symm h.sq) (fun k hk => h.b1.inn.ge k (Or.inl hk)), h.ox.off ho h.os, h.st, h.sq, h.rt, h.rq, h.os, h.or, h.ot, h.oq, h.lt, Nat.le_trans h.le ho.size⟩, fun _ _ g => g.off ho (fun _ hk => hk ▸ h.lt.1)⟩
theorem D4.atR (h : D4 W w M s r t q ob cs n e l n' e' l') (hs : Rcv w' r x y) (ho : Off (fun k => k = r) w w') : D4 W w' M s r t q ob cs n x y n' e' l' ∧ EvK M w w' :=
  ⟨⟨h.b1.atR hs ho, h.b2.offP ho (Ne.symm h.rt) (Ne.symm h.rq) (fun k hk => h.b1.inn.ge k (Or.inr hk)), h.ox.off ho h.or, h.st, h.sq, h.rt, h.rq, h.os, h.or, h.ot, h.oq, h.lt, Nat.le_trans h.le ho.size⟩, fun _ _ g => g.off ho (fun _ hk => hk ▸ h.lt.2.1)⟩
theorem D4.atT (h : D4 W w M s r t q ob cs n e l n' e' l') (hs : Snd w' t x) (ho : Off (fun k => k = t) w w') : D4 W w' M s r t q ob cs n e l x e' l' ∧ EvK M w w' :=
  ⟨⟨h.b1.offP ho h.st h.rt (fun k hk => h.b2.inn.ge k (Or.inl hk)), h.b2.atS hs ho, h.ox.off ho h.ot, h.st, h.sq, h.rt, h.rq, h.os, h.or, h.ot, h.oq, h.lt, Nat.le_trans h.le ho.size⟩, fun _ _ g => g.off ho (fun _ hk => hk ▸ h.lt.2.2.1)⟩
theorem D4.atQ (h : D4 W w M s r t q ob cs n e l n' e' l') (hs : Rcv w' q x y) (ho : Off (fun k => k = q) w w') : D4 W w' M s r t q ob cs n e l n' x y ∧ EvK M w w' :=
  ⟨⟨h.b1.offP ho h.sq h.rq (fun k hk => h.b2.inn.ge k (Or.inr hk)), h.b2.atR hs ho, h.ox.off ho h.oq, h.st, h.sq, h.rt, h.rq, h.os, h.or, h.ot, h.oq, h.lt, Nat.le_trans h.le ho.size⟩, fun _ _ g => g.off ho (fun _ hk => hk ▸ h.lt.2.2.2)⟩
theorem D4.below (h : D4 W w M s r t q ob cs n e l n' e' l') (hb : Below w.heap.size w w') : D4 W w' M s r t q ob cs n e l n' e' l' ∧ EvK M w w' :=
  ⟨⟨h.b1.below hb, h.b2.below hb, h.ox.below hb, h.st, h.sq, h.rt, h.rq, h.os, h.or, h.ot, h.oq, h.lt, Nat.le_trans h.le hb.size⟩, fun _ _ g => g.below hb⟩
end
section
variable {W w : World} {M s r t q ob : Nat} {cs : Array Value} {n e l n' e' l' : Int}
theorem D4.codeB (h : D4 W w M s r t q ob cs n e l n' e' l') {ev : Value} {c : Int} (hev : Ev w M ev c) {y : World} (hb : Below w.heap.size w y) : Calls Tryd.prog 11 #[ev] y fun v w' => v = .returned (.int .i64 c) ∧ Hid (D4 W w' M s r t q ob cs (n) (e) (l) (n') (e') (l') ∧ EvK M w w') := by
  have h1 := h.below hb
  exact (h1.1.b1.code (h1.2 _ _ hev)).mono fun _ w' ⟨a, Z⟩ => ⟨a, (h1.1.below Z.out.2).1, fun _ _ g => (h1.1.below Z.out.2).2 _ _ (h1.2 _ _ g)⟩
theorem D4.next1 (h : D4 W w M s r t q ob cs n e l n' e' l') {y : World} (hb : Below w.heap.size w y) : Calls Tryd.prog 12 #[.pointer (some ⟨s, 0, none⟩)] y fun v w' => v = .returned (.int .i64 n) ∧ Hid (D4 W w' M s r t q ob cs (n) (e) (l) (n') (e') (l') ∧ EvK M w w') := by
  have h1 := h.below hb
  exact (h1.1.b1.next).mono fun _ w' ⟨a, Z⟩ => ⟨a, (h1.1.below Z.out.2).1, fun _ _ g => (h1.1.below Z.out.2).2 _ _ (h1.2 _ _ g)⟩
theorem D4.exp1 (h : D4 W w M s r t q ob cs n e l n' e' l') {y : World} (hb : Below w.heap.size w y) : Calls Tryd.prog 18 #[.pointer (some ⟨r, 0, none⟩)] y fun v w' => v = .returned (.int .i64 e) ∧ Hid (D4 W w' M s r t q ob cs (n) (e) (l) (n') (e') (l') ∧ EvK M w w') := by
  have h1 := h.below hb
  exact (h1.1.b1.exp).mono fun _ w' ⟨a, Z⟩ => ⟨a, (h1.1.below Z.out.2).1, fun _ _ g => (h1.1.below Z.out.2).2 _ _ (h1.2 _ _ g)⟩
theorem D4.last1 (h : D4 W w M s r t q ob cs n e l n' e' l') {y : World} (hb : Below w.heap.size w y) : Calls Tryd.prog 17 #[.pointer (some ⟨r, 0, none⟩)] y fun v w' => v = .returned (.int .i64 l) ∧ Hid (D4 W w' M s r t q ob cs (n) (e) (l) (n') (e') (l') ∧ EvK M w w') := by
  have h1 := h.below hb
  exact (h1.1.b1.last).mono fun _ w' ⟨a, Z⟩ => ⟨a, (h1.1.below Z.out.2).1, fun _ _ g => (h1.1.below Z.out.2).2 _ _ (h1.2 _ _ g)⟩
theorem D4.tell1 (h : D4 W w M s r t q ob cs n e l n' e' l') {y : World} (hb : Below w.heap.size w y) : Calls Tryd.prog 15 #[.pointer (some ⟨r, 0, none⟩)] y fun v w' => v = .returned (.int .i64 (tellV e)) ∧ Hid (D4 W w' M s r t q ob cs (n) (e) (l) (n') (e') (l') ∧ EvK M w w') := by
  have h1 := h.below hb
  exact (h1.1.b1.tell).mono fun _ w' ⟨a, Z⟩ => ⟨a, (h1.1.below Z.out.2).1, fun _ _ g => (h1.1.below Z.out.2).2 _ _ (h1.2 _ _ g)⟩
theorem D4.judge1 (h : D4 W w M s r t q ob cs n e l n' e' l') (m : Int) {y : World} (hb : Below w.heap.size w y) : Calls Tryd.prog 14 #[.pointer (some ⟨r, 0, none⟩), .int .i64 m] y fun v w' => v = .returned (.int .i64 (judK e l m)) ∧ Hid (D4 W w' M s r t q ob cs (n) (e) (l) (n') (e') (l') ∧ EvK M w w') := by
  have h1 := h.below hb
  exact (h1.1.b1.judge m).mono fun _ w' ⟨a, Z⟩ => ⟨a, (h1.1.below Z.out.2).1, fun _ _ g => (h1.1.below Z.out.2).2 _ _ (h1.2 _ _ g)⟩
theorem D4.take1 (h : D4 W w M s r t q ob cs n e l n' e' l') {y : World} (hb : Below w.heap.size w y) : Calls Tryd.prog 10 #[.pointer (some ⟨s, 0, none⟩)] y fun v w' => ∃ ev, v = .returned (.tuple #[.int .i64 n, ev]) ∧ Hid (D4 W w' M s r t q ob cs (takeS n) (e) (l) (n') (e') (l') ∧ EvK M w w' ∧ Ev w' M ev (takeC n)) := by
  have h1 := h.below hb
  exact (h1.1.b1.take).mono fun _ w' ⟨ev, a, Z⟩ => ⟨ev, a, (h1.1.atS Z.out.1.sn Z.out.2.2).1, fun _ _ g => (h1.1.atS Z.out.1.sn Z.out.2.2).2 _ _ (h1.2 _ _ g), Z.out.2.1.mono h1.1.le⟩
theorem D4.back1 (h : D4 W w M s r t q ob cs n e l n' e' l') (m k : Int) {y : World} (hb : Below w.heap.size w y) : Calls Tryd.prog 22 #[.pointer (some ⟨s, 0, none⟩), .int .i64 m, .int .i64 k] y fun v w' => ∃ ev, v = .returned (.tuple #[.int .i64 (backV m k), ev]) ∧ Hid (D4 W w' M s r t q ob cs (backS n m k) (e) (l) (n') (e') (l') ∧ EvK M w w' ∧ Ev w' M ev (backC m k)) := by
  have h1 := h.below hb
  exact (h1.1.b1.back m k).mono fun _ w' ⟨ev, a, Z⟩ => ⟨ev, a, (h1.1.atS Z.out.1.sn Z.out.2.2).1, fun _ _ g => (h1.1.atS Z.out.1.sn Z.out.2.2).2 _ _ (h1.2 _ _ g), Z.out.2.1.mono h1.1.le⟩
theorem D4.set1 (h : D4 W w M s r t q ob cs n e l n' e' l') (m : Int) {y : World} (hb : Below w.heap.size w y) : Calls Tryd.prog 23 #[.pointer (some ⟨s, 0, none⟩), .int .i64 m] y fun v w' => ∃ ev, v = .returned (ev) ∧ Hid (D4 W w' M s r t q ob cs (setS n m) (e) (l) (n') (e') (l') ∧ EvK M w w' ∧ Ev w' M ev (newC m)) := by
  have h1 := h.below hb
  exact (h1.1.b1.set m).mono fun _ w' ⟨ev, a, Z⟩ => ⟨ev, a, (h1.1.atS Z.out.1.sn Z.out.2.2).1, fun _ _ g => (h1.1.atS Z.out.1.sn Z.out.2.2).2 _ _ (h1.2 _ _ g), Z.out.2.1.mono h1.1.le⟩
theorem D4.accept1 (h : D4 W w M s r t q ob cs n e l n' e' l') (m : Int) {y : World} (hb : Below w.heap.size w y) : Calls Tryd.prog 16 #[.pointer (some ⟨r, 0, none⟩), .int .i64 m] y fun v w' => ∃ ev, v = .returned (ev) ∧ Hid (D4 W w' M s r t q ob cs (n) (accE e m) (accL e l m) (n') (e') (l') ∧ EvK M w w' ∧ Ev w' M ev (accC e m)) := by
  have h1 := h.below hb
  exact (h1.1.b1.accept m).mono fun _ w' ⟨ev, a, Z⟩ => ⟨ev, a, (h1.1.atR Z.out.1.rc Z.out.2.2).1, fun _ _ g => (h1.1.atR Z.out.1.rc Z.out.2.2).2 _ _ (h1.2 _ _ g), Z.out.2.1.mono h1.1.le⟩
theorem D4.next2 (h : D4 W w M s r t q ob cs n e l n' e' l') {y : World} (hb : Below w.heap.size w y) : Calls Tryd.prog 12 #[.pointer (some ⟨t, 0, none⟩)] y fun v w' => v = .returned (.int .i64 n') ∧ Hid (D4 W w' M s r t q ob cs (n) (e) (l) (n') (e') (l') ∧ EvK M w w') := by
  have h1 := h.below hb
  exact (h1.1.b2.next).mono fun _ w' ⟨a, Z⟩ => ⟨a, (h1.1.below Z.out.2).1, fun _ _ g => (h1.1.below Z.out.2).2 _ _ (h1.2 _ _ g)⟩
theorem D4.exp2 (h : D4 W w M s r t q ob cs n e l n' e' l') {y : World} (hb : Below w.heap.size w y) : Calls Tryd.prog 18 #[.pointer (some ⟨q, 0, none⟩)] y fun v w' => v = .returned (.int .i64 e') ∧ Hid (D4 W w' M s r t q ob cs (n) (e) (l) (n') (e') (l') ∧ EvK M w w') := by
  have h1 := h.below hb
  exact (h1.1.b2.exp).mono fun _ w' ⟨a, Z⟩ => ⟨a, (h1.1.below Z.out.2).1, fun _ _ g => (h1.1.below Z.out.2).2 _ _ (h1.2 _ _ g)⟩
theorem D4.last2 (h : D4 W w M s r t q ob cs n e l n' e' l') {y : World} (hb : Below w.heap.size w y) : Calls Tryd.prog 17 #[.pointer (some ⟨q, 0, none⟩)] y fun v w' => v = .returned (.int .i64 l') ∧ Hid (D4 W w' M s r t q ob cs (n) (e) (l) (n') (e') (l') ∧ EvK M w w') := by
  have h1 := h.below hb
  exact (h1.1.b2.last).mono fun _ w' ⟨a, Z⟩ => ⟨a, (h1.1.below Z.out.2).1, fun _ _ g => (h1.1.below Z.out.2).2 _ _ (h1.2 _ _ g)⟩
theorem D4.tell2 (h : D4 W w M s r t q ob cs n e l n' e' l') {y : World} (hb : Below w.heap.size w y) : Calls Tryd.prog 15 #[.pointer (some ⟨q, 0, none⟩)] y fun v w' => v = .returned (.int .i64 (tellV e')) ∧ Hid (D4 W w' M s r t q ob cs (n) (e) (l) (n') (e') (l') ∧ EvK M w w') := by
  have h1 := h.below hb
  exact (h1.1.b2.tell).mono fun _ w' ⟨a, Z⟩ => ⟨a, (h1.1.below Z.out.2).1, fun _ _ g => (h1.1.below Z.out.2).2 _ _ (h1.2 _ _ g)⟩
theorem D4.judge2 (h : D4 W w M s r t q ob cs n e l n' e' l') (m : Int) {y : World} (hb : Below w.heap.size w y) : Calls Tryd.prog 14 #[.pointer (some ⟨q, 0, none⟩), .int .i64 m] y fun v w' => v = .returned (.int .i64 (judK e' l' m)) ∧ Hid (D4 W w' M s r t q ob cs (n) (e) (l) (n') (e') (l') ∧ EvK M w w') := by
  have h1 := h.below hb
  exact (h1.1.b2.judge m).mono fun _ w' ⟨a, Z⟩ => ⟨a, (h1.1.below Z.out.2).1, fun _ _ g => (h1.1.below Z.out.2).2 _ _ (h1.2 _ _ g)⟩
theorem D4.take2 (h : D4 W w M s r t q ob cs n e l n' e' l') {y : World} (hb : Below w.heap.size w y) : Calls Tryd.prog 10 #[.pointer (some ⟨t, 0, none⟩)] y fun v w' => ∃ ev, v = .returned (.tuple #[.int .i64 n', ev]) ∧ Hid (D4 W w' M s r t q ob cs (n) (e) (l) (takeS n') (e') (l') ∧ EvK M w w' ∧ Ev w' M ev (takeC n')) := by
  have h1 := h.below hb
  exact (h1.1.b2.take).mono fun _ w' ⟨ev, a, Z⟩ => ⟨ev, a, (h1.1.atT Z.out.1.sn Z.out.2.2).1, fun _ _ g => (h1.1.atT Z.out.1.sn Z.out.2.2).2 _ _ (h1.2 _ _ g), Z.out.2.1.mono h1.1.le⟩
theorem D4.back2 (h : D4 W w M s r t q ob cs n e l n' e' l') (m k : Int) {y : World} (hb : Below w.heap.size w y) : Calls Tryd.prog 22 #[.pointer (some ⟨t, 0, none⟩), .int .i64 m, .int .i64 k] y fun v w' => ∃ ev, v = .returned (.tuple #[.int .i64 (backV m k), ev]) ∧ Hid (D4 W w' M s r t q ob cs (n) (e) (l) (backS n' m k) (e') (l') ∧ EvK M w w' ∧ Ev w' M ev (backC m k)) := by
  have h1 := h.below hb
  exact (h1.1.b2.back m k).mono fun _ w' ⟨ev, a, Z⟩ => ⟨ev, a, (h1.1.atT Z.out.1.sn Z.out.2.2).1, fun _ _ g => (h1.1.atT Z.out.1.sn Z.out.2.2).2 _ _ (h1.2 _ _ g), Z.out.2.1.mono h1.1.le⟩
theorem D4.set2 (h : D4 W w M s r t q ob cs n e l n' e' l') (m : Int) {y : World} (hb : Below w.heap.size w y) : Calls Tryd.prog 23 #[.pointer (some ⟨t, 0, none⟩), .int .i64 m] y fun v w' => ∃ ev, v = .returned (ev) ∧ Hid (D4 W w' M s r t q ob cs (n) (e) (l) (setS n' m) (e') (l') ∧ EvK M w w' ∧ Ev w' M ev (newC m)) := by
  have h1 := h.below hb
  exact (h1.1.b2.set m).mono fun _ w' ⟨ev, a, Z⟩ => ⟨ev, a, (h1.1.atT Z.out.1.sn Z.out.2.2).1, fun _ _ g => (h1.1.atT Z.out.1.sn Z.out.2.2).2 _ _ (h1.2 _ _ g), Z.out.2.1.mono h1.1.le⟩
theorem D4.accept2 (h : D4 W w M s r t q ob cs n e l n' e' l') (m : Int) {y : World} (hb : Below w.heap.size w y) : Calls Tryd.prog 16 #[.pointer (some ⟨q, 0, none⟩), .int .i64 m] y fun v w' => ∃ ev, v = .returned (ev) ∧ Hid (D4 W w' M s r t q ob cs (n) (e) (l) (n') (accE e' m) (accL e' l' m) ∧ EvK M w w' ∧ Ev w' M ev (accC e' m)) := by
  have h1 := h.below hb
  exact (h1.1.b2.accept m).mono fun _ w' ⟨ev, a, Z⟩ => ⟨ev, a, (h1.1.atQ Z.out.1.rc Z.out.2.2).1, fun _ _ g => (h1.1.atQ Z.out.1.rc Z.out.2.2).2 _ _ (h1.2 _ _ g), Z.out.2.1.mono h1.1.le⟩
end
set_option maxRecDepth 100000 in
set_option maxHeartbeats 8000000 in
theorem anew_law (ao : Option Addr) (cap : Nat) (xs : List (Int × Int × Int × Int)) (w : World) (hV : PV w) (hS : Scr w ao xs) (hn : xs.length ≤ 140737488355328) : Calls Tryd.prog 6 #[.slice ao xs.length cap] w fun r w' => r = .returned (.bool true) ∧ Below w.heap.size w w' := by
  have HV : Hid (PV w) := hV
  have HS : Hid (Scr w ao xs) := hS
  obtain ⟨n, hl⟩ : ∃ n, xs.length = n := ⟨_, rfl⟩
  rw [hl] at hn ⊢
  have HL : Hid (xs.length = n) := hl
  clear hV hS hl
  go_enter Tryd.func6, Tryd.ntmps6
  go_wp2_with fail
  refine (begun_any w HV.out).mono ?_
  rintro _ w1 ⟨s, r, rfl, HI⟩
  go_wp2_with fail
  go_loopw [6] (fun ti wx => ∃ (j : Nat) (nn ee ll : Int), j ≤ n ∧ ti = .int .i64 j ∧ Hid (BR w wx s r nn ee ll ∧ newR ee ll = 0)) (fun ti _ => n - (intOf ti).toNat)
  case atStart => exact ⟨0, 1, 1, 0, Nat.zero_le _, rfl, HI.out, rfl⟩
  case round =>
    obtain ⟨j, nn, ee, ll, hj, rfl, HI⟩ := hrel
    by_cases hlt : j < n
    · obtain ⟨⟨kd, of, m, e⟩, hy⟩ : ∃ y, xs[j]? = some y := ⟨_, List.getElem?_eq_getElem (by rw [HL.out]; exact hlt)⟩
      obtain ⟨sb, so, rfl, hsl, ka0, ka1, ka2, ka3⟩ := HS.out j _ hy
      simp only at ka0 ka1 ka2 ka3
      have hlt1 : (j : Int) < n := by omega
      clear hy
      go_wp2_with fail
      refine HI.out.1.next.mono ?_
      rintro _ x1 ⟨rfl, X1⟩
      go_wp2_with fail
      refine (pNewS_ok nn X1.out.1.sn.ok x1 X1.out.1.here).mono ?_
      rintro _ x2 ⟨t, rfl, hge, hs, hb⟩
      have X2 : Hid (BR w x2 s r nn ee ll ∧ x1.heap.size ≤ t ∧ Snd x2 t nn ∧ s < x1.heap.size ∧ r < x1.heap.size ∧ w.heap.size ≤ x1.heap.size) := ⟨X1.out.1.below hb, hge, hs, X1.out.1.sn.lt, X1.out.1.rc.lt, X1.out.1.inn.bl.size⟩
      clear hge hs hb
      go_wp2_with fail
      refine X2.out.1.exp.mono ?_
      rintro _ x3 ⟨rfl, X3⟩
      go_wp2_with fail
      refine X3.out.1.last.mono ?_
      rintro _ x4 ⟨rfl, X4⟩
      go_wp2_with fail
      refine (pNewR_ok ee ll HI.out.2 x4 X4.out.1.here).mono ?_
      rintro _ V ⟨q, rfl, hge, hs, hb⟩
      have hb2 : Below x2.heap.size x2 V := below_then X3.out.2 (below_then X4.out.2 hb)
      have HQ : Hid (BR w V s r nn ee ll ∧ BR w V t q nn ee ll ∧ s ≠ t ∧ s ≠ q ∧ r ≠ t ∧ r ≠ q) := by
        have k1 := X2.out.2.2.1.lt
        have k2 := X3.out.2.size
        have k3 := X4.out.2.size
        have k4 := X2.out.2.1
        have k5 := X2.out.2.2.2
        exact ⟨X4.out.1.below hb, ⟨X2.out.2.2.1.off (P := fun _ => False) (Off.of_below hb2) id, hs, by omega, ⟨HV.out, (X4.out.1.below hb).inn.bl, fun k hk => by rcases hk with rfl | rfl <;> omega⟩⟩, by omega, by omega, by omega, by omega⟩
      clear hge hs hb hb2 X1 X2 X3 X4
      have q0 : V.cell? ⟨sb, so + j * 4, none⟩ = some (.int .i64 kd) := (HQ.out.1.inn.bl.cell (p := ⟨sb, so + j * 4, none⟩) hsl).trans ka0
      have q1 : V.cell? ⟨sb, so + j * 4 + 1, none⟩ = some (.int .i64 of) := (HQ.out.1.inn.bl.cell (p := ⟨sb, so + j * 4 + 1, none⟩) hsl).trans ka1
      have q2 : V.cell? ⟨sb, so + j * 4 + 2, none⟩ = some (.int .i64 m) := (HQ.out.1.inn.bl.cell (p := ⟨sb, so + j * 4 + 2, none⟩) hsl).trans ka2
      have q3 : V.cell? ⟨sb, so + j * 4 + 3, none⟩ = some (.int .i64 e) := (HQ.out.1.inn.bl.cell (p := ⟨sb, so + j * 4 + 3, none⟩) hsl).trans ka3
      clear ka0 ka1 ka2 ka3
      have hO := Box.new V #[.int .i64 kd, .int .i64 of, .int .i64 m, .int .i64 e] 47
      have hbO : Below V.heap.size V (V.alloc (.cells #[.int .i64 kd, .int .i64 of, .int .i64 m, .int .i64 e] 47)) := (Below.refl _ _).alloc (Nat.le_refl _) _
      obtain ⟨U, hUe⟩ : ∃ U, V.alloc (.cells #[.int .i64 kd, .int .i64 of, .int .i64 m, .int .i64 e] 47) = U := ⟨_, rfl⟩
      have HUe : Hid (V.alloc (.cells #[.int .i64 kd, .int .i64 of, .int .i64 m, .int .i64 e] 47) = U) := hUe
      rw [hUe] at hO hbO
      have D0 : Hid (D4 w U V.heap.size s r t q V.heap.size #[.int .i64 kd, .int .i64 of, .int .i64 m, .int .i64 e] nn ee ll nn ee ll ∧ EvK V.heap.size U U) := by
        have k1 := HQ.out.1.sn.lt
        have k2 := HQ.out.1.rc.lt
        have k3 := HQ.out.2.1.sn.lt
        have k4 := HQ.out.2.1.rc.lt
        exact ⟨⟨HQ.out.1.below hbO, HQ.out.2.1.below hbO, hO, HQ.out.2.2.1, HQ.out.2.2.2.1, HQ.out.2.2.2.2.1, HQ.out.2.2.2.2.2, by omega, by omega, by omega, by omega, ⟨k1, k2, k3, k4⟩, hbO.size⟩, fun _ _ g => g⟩
      clear hO hbO hUe
      go_wp2_with fail
      rw [HUe.out]
      have ox := D0.out.1.ox.cell
      refine (D0.out.1.back1 m e ?_).mono ?_
      (first | exact Below.refl _ _ | exact Below.drew (Below.refl _ _))
      rintro _ y1 ⟨ev1, rfl, D1⟩
      have E1 := Hid.mk' D1.out.2.2
      clear D0
      clear ox
      have ox := D1.out.1.ox.cell
      go_wp2_with fail
      refine (D1.out.1.back2 m e ?_).mono ?_
      (first | exact Below.refl _ _ | exact Below.drew (Below.refl _ _))
      rintro _ y2 ⟨ev2, rfl, D2⟩
      replace E1 := Hid.mk' (D2.out.2.1 _ _ E1.out)
      have E2 := Hid.mk' D2.out.2.2
      clear D1
      clear ox
      have ox := D2.out.1.ox.cell
      go_wp2_with fail
      have c1 : y2.cell? ⟨V.heap.size, 1, none⟩ = some (.int .i64 of) := ox 1
      clear ox
      go_region_held3 (fun y => y.cell? ⟨V.heap.size, 1, none⟩ = some (.int .i64 of)) (simp [*]) (first | (go_at_call 11; refine (D2.out.1.codeB E1.out ?_).mono ?_; (first | exact Below.refl _ _ | exact Below.drew (Below.refl _ _)); rintro _ y3 ⟨rfl, D3⟩; replace E2 := Hid.mk' (D3.out.2 _ _ E2.out); clear D2; have g3_1 : y3.cell? ⟨V.heap.size, 1, none⟩ = some (.int .i64 of) := (D3.out.1.ox.cell 1)) | (go_at_call 11; refine (D3.out.1.codeB E2.out ?_).mono ?_; (first | exact Below.refl _ _ | exact Below.drew (Below.refl _ _)); rintro _ y4 ⟨rfl, D4⟩; clear D3; have g4_1 : y4.cell? ⟨V.heap.size, 1, none⟩ = some (.int .i64 of) := (D4.out.1.ox.cell 1)) | (go_at_call 23; refine (D4.out.1.set1 of ?_).mono ?_; (first | exact Below.refl _ _ | exact Below.drew (Below.refl _ _)); rintro _ y5 ⟨ev5, rfl, D5⟩; have E5 := Hid.mk' D5.out.2.2; clear D4; have g5_1 : y5.cell? ⟨V.heap.size, 1, none⟩ = some (.int .i64 of) := (D5.out.1.ox.cell 1)) | (go_at_call 11; refine (D5.out.1.codeB E5.out ?_).mono ?_; (first | exact Below.refl _ _ | exact Below.drew (Below.refl _ _)); rintro _ y6 ⟨rfl, D6⟩; clear D5; have g6_1 : y6.cell? ⟨V.heap.size, 1, none⟩ = some (.int .i64 of) := (D6.out.1.ox.cell 1)) | (go_at_call 23; refine (D6.out.1.set2 of ?_).mono ?_; (first | exact Below.refl _ _ | exact Below.drew (Below.refl _ _)); rintro _ y7 ⟨ev7, rfl, D7⟩; have E7 := Hid.mk' D7.out.2.2; clear D6; have g7_1 : y7.cell? ⟨V.heap.size, 1, none⟩ = some (.int .i64 of) := (D7.out.1.ox.cell 1)) | (go_at_call 11; refine (D7.out.1.codeB E7.out ?_).mono ?_; (first | exact Below.refl _ _ | exact Below.drew (Below.refl _ _)); rintro _ y8 ⟨rfl, D8⟩; clear D7; have g8_1 : y8.cell? ⟨V.heap.size, 1, none⟩ = some (.int .i64 of) := (D8.out.1.ox.cell 1)))
      have ox := D8.out.1.ox.cell
      go_wp2_with fail
      refine (D8.out.1.take1 ?_).mono ?_
      (first | exact Below.refl _ _ | exact Below.drew (Below.refl _ _))
      rintro _ y9 ⟨ev9, rfl, D9⟩
      have E9 := Hid.mk' D9.out.2.2
      clear D8
      clear ox
      have ox := D9.out.1.ox.cell
      go_wp2_with fail
      refine (D9.out.1.take2 ?_).mono ?_
      (first | exact Below.refl _ _ | exact Below.drew (Below.refl _ _))
      rintro _ y10 ⟨ev10, rfl, D10⟩
      replace E9 := Hid.mk' (D10.out.2.1 _ _ E9.out)
      have E10 := Hid.mk' D10.out.2.2
      clear D9
      clear ox
      have ox := D10.out.1.ox.cell
      go_wp2_with fail
      refine (D10.out.1.codeB E9.out ?_).mono ?_
      (first | exact Below.refl _ _ | exact Below.drew (Below.refl _ _))
      rintro _ y11 ⟨rfl, D11⟩
      replace E10 := Hid.mk' (D11.out.2 _ _ E10.out)
      clear D10
      clear ox
      have ox := D11.out.1.ox.cell
      go_wp2_with fail
      refine (D11.out.1.codeB E10.out ?_).mono ?_
      (first | exact Below.refl _ _ | exact Below.drew (Below.refl _ _))
      rintro _ y12 ⟨rfl, D12⟩
      clear D11
      clear ox
      have ox := D12.out.1.ox.cell
      go_wp2_with fail
      refine (D12.out.1.next1 ?_).mono ?_
      (first | exact Below.refl _ _ | exact Below.drew (Below.refl _ _))
      rintro _ y13 ⟨rfl, D13⟩
      clear D12
      clear ox
      have ox := D13.out.1.ox.cell
      go_wp2_with fail
      refine (D13.out.1.next2 ?_).mono ?_
      (first | exact Below.refl _ _ | exact Below.drew (Below.refl _ _))
      rintro _ y14 ⟨rfl, D14⟩
      clear D13
      clear ox
      have ox := D14.out.1.ox.cell
      go_wp2_with fail
      have c2 : y14.cell? ⟨V.heap.size, 2, none⟩ = some (.int .i64 m) := ox 2
      clear ox
      go_region_held3 (fun y => y.cell? ⟨V.heap.size, 2, none⟩ = some (.int .i64 m)) (simp [*]) (first | (go_at_call 14; refine (D14.out.1.judge1 m ?_).mono ?_; (first | exact Below.refl _ _ | exact Below.drew (Below.refl _ _)); rintro _ y15 ⟨rfl, D15⟩; clear D14; have g15_2 : y15.cell? ⟨V.heap.size, 2, none⟩ = some (.int .i64 m) := (D15.out.1.ox.cell 2)) | (go_at_call 14; refine (D15.out.1.judge2 m ?_).mono ?_; (first | exact Below.refl _ _ | exact Below.drew (Below.refl _ _)); rintro _ y16 ⟨rfl, D16⟩; clear D15; have g16_2 : y16.cell? ⟨V.heap.size, 2, none⟩ = some (.int .i64 m) := (D16.out.1.ox.cell 2)) | (go_at_call 16; refine (D16.out.1.accept1 m ?_).mono ?_; (first | exact Below.refl _ _ | exact Below.drew (Below.refl _ _)); rintro _ y17 ⟨ev17, rfl, D17⟩; have E17 := Hid.mk' D17.out.2.2; clear D16; have g17_2 : y17.cell? ⟨V.heap.size, 2, none⟩ = some (.int .i64 m) := (D17.out.1.ox.cell 2)) | (go_at_call 11; refine (D17.out.1.codeB E17.out ?_).mono ?_; (first | exact Below.refl _ _ | exact Below.drew (Below.refl _ _)); rintro _ y18 ⟨rfl, D18⟩; clear D17; have g18_2 : y18.cell? ⟨V.heap.size, 2, none⟩ = some (.int .i64 m) := (D18.out.1.ox.cell 2)) | (go_at_call 16; refine (D18.out.1.accept2 m ?_).mono ?_; (first | exact Below.refl _ _ | exact Below.drew (Below.refl _ _)); rintro _ y19 ⟨ev19, rfl, D19⟩; have E19 := Hid.mk' D19.out.2.2; clear D18; have g19_2 : y19.cell? ⟨V.heap.size, 2, none⟩ = some (.int .i64 m) := (D19.out.1.ox.cell 2)) | (go_at_call 11; refine (D19.out.1.codeB E19.out ?_).mono ?_; (first | exact Below.refl _ _ | exact Below.drew (Below.refl _ _)); rintro _ y20 ⟨rfl, D20⟩; clear D19; have g20_2 : y20.cell? ⟨V.heap.size, 2, none⟩ = some (.int .i64 m) := (D20.out.1.ox.cell 2)) | (go_at_call 18; refine (D20.out.1.exp1 ?_).mono ?_; (first | exact Below.refl _ _ | exact Below.drew (Below.refl _ _)); rintro _ y21 ⟨rfl, D21⟩; clear D20; have g21_2 : y21.cell? ⟨V.heap.size, 2, none⟩ = some (.int .i64 m) := (D21.out.1.ox.cell 2)) | (go_at_call 16; refine (D21.out.1.accept1 (accE ee m) ?_).mono ?_; (first | exact Below.refl _ _ | exact Below.drew (Below.refl _ _)); rintro _ y22 ⟨ev22, rfl, D22⟩; have E22 := Hid.mk' D22.out.2.2; clear D21; have g22_2 : y22.cell? ⟨V.heap.size, 2, none⟩ = some (.int .i64 m) := (D22.out.1.ox.cell 2)) | (go_at_call 11; refine (D22.out.1.codeB E22.out ?_).mono ?_; (first | exact Below.refl _ _ | exact Below.drew (Below.refl _ _)); rintro _ y23 ⟨rfl, D23⟩; clear D22; have g23_2 : y23.cell? ⟨V.heap.size, 2, none⟩ = some (.int .i64 m) := (D23.out.1.ox.cell 2)) | (go_at_call 18; refine (D23.out.1.exp2 ?_).mono ?_; (first | exact Below.refl _ _ | exact Below.drew (Below.refl _ _)); rintro _ y24 ⟨rfl, D24⟩; clear D23; have g24_2 : y24.cell? ⟨V.heap.size, 2, none⟩ = some (.int .i64 m) := (D24.out.1.ox.cell 2)) | (go_at_call 16; refine (D24.out.1.accept2 (accE ee m) ?_).mono ?_; (first | exact Below.refl _ _ | exact Below.drew (Below.refl _ _)); rintro _ y25 ⟨ev25, rfl, D25⟩; have E25 := Hid.mk' D25.out.2.2; clear D24; have g25_2 : y25.cell? ⟨V.heap.size, 2, none⟩ = some (.int .i64 m) := (D25.out.1.ox.cell 2)) | (go_at_call 11; refine (D25.out.1.codeB E25.out ?_).mono ?_; (first | exact Below.refl _ _ | exact Below.drew (Below.refl _ _)); rintro _ y26 ⟨rfl, D26⟩; clear D25; have g26_2 : y26.cell? ⟨V.heap.size, 2, none⟩ = some (.int .i64 m) := (D26.out.1.ox.cell 2)))
      have ox := D26.out.1.ox.cell
      go_wp2_with fail
      refine (D26.out.1.exp1 ?_).mono ?_
      (first | exact Below.refl _ _ | exact Below.drew (Below.refl _ _))
      rintro _ y27 ⟨rfl, D27⟩
      clear D26
      clear ox
      have ox := D27.out.1.ox.cell
      go_wp2_with fail
      refine (D27.out.1.exp2 ?_).mono ?_
      (first | exact Below.refl _ _ | exact Below.drew (Below.refl _ _))
      rintro _ y28 ⟨rfl, D28⟩
      clear D27
      clear ox
      have ox := D28.out.1.ox.cell
      go_wp2_with fail
      refine (D28.out.1.last1 ?_).mono ?_
      (first | exact Below.refl _ _ | exact Below.drew (Below.refl _ _))
      rintro _ y29 ⟨rfl, D29⟩
      clear D28
      clear ox
      have ox := D29.out.1.ox.cell
      go_wp2_with fail
      refine (D29.out.1.last2 ?_).mono ?_
      (first | exact Below.refl _ _ | exact Below.drew (Below.refl _ _))
      rintro _ y30 ⟨rfl, D30⟩
      clear D29
      clear ox
      have ox := D30.out.1.ox.cell
      go_wp2_with fail
      refine (D30.out.1.tell1 ?_).mono ?_
      (first | exact Below.refl _ _ | exact Below.drew (Below.refl _ _))
      rintro _ y31 ⟨rfl, D31⟩
      clear D30
      clear ox
      have ox := D31.out.1.ox.cell
      go_wp2_with fail
      refine (D31.out.1.tell2 ?_).mono ?_
      (first | exact Below.refl _ _ | exact Below.drew (Below.refl _ _))
      rintro _ y32 ⟨rfl, D32⟩
      clear D31
      clear ox
      have ox := D32.out.1.ox.cell
      have HF : Hid (newR (accE (accE ee m) (accE ee m)) (accL (accE ee m) (accL ee ll m) (accE ee m)) = 0) := newR_acc (newR_acc HI.out.2)
      by_cases hk4 : kd = 4
      · subst hk4
        go_wp2_with fail
        refine D32.out.1.b1.reset.mono ?_
        rintro _ z1 ⟨ez, rfl, Y1⟩
        obtain rfl := Y1.out.2.1.nil
        go_wp2_with fail
        refine Y1.out.1.exp.mono ?_
        rintro _ z2 ⟨rfl, Y2⟩
        go_wp2_with fail
        go_roundw
        case rel => exact ⟨j + 1, _, 0, 0, hlt, by go_num, Y2.out.1, rfl⟩
        case measure => simp [intOf]; omega
      · have hk5 : (kd == 4) = false := by simpa using hk4
        go_wp2_with fail
        go_roundw
        case rel => exact ⟨j + 1, _, _, _, hlt, by go_num, D32.out.1.b1, HF.out⟩
        case measure => simp [intOf]; omega
    · have hlt1 : ¬ ((j : Int) < n) := by omega
      go_wp2_with fail
      go_ret
      exact ⟨rfl, HI.out.1.inn.bl⟩
end Go.Proofs.YtnabpjfdpelejaaDoor
