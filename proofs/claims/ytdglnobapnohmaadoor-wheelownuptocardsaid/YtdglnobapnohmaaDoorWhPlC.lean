import Derived.Test.YtdglnobapnohmaaDoorWhIs
import Derived.Test.YtdglnobapnohmaaDoorWhFull
import Derived.Test.YtdglnobapnohmaaDoorWhRef8
import Derived.Test.YtdglnobapnohmaaDoorWhStop
/-
  Both wheels in one state: the program's and the document's, with the call and its key.
-/
namespace Go.Proofs.YtdglnobapnohmaaDoor
open Go.RowKit

/-- A wheel's blocks are none of the document's rows. -/
theorem Whl.nrow {w : World} {B W now : Nat} {S : List Tm} {F : Nat → Prop} (h : Whl w B W now S F) {B' : Nat} {v : Value} {xs : List Tm} (hr : RRow w B' v xs) {q : Nat} (hq : F q) : v.ownBlock ≠ some q := fun e => by
  obtain ⟨T, M, v', L, f, n, hW, hB, hT, _, _, _, _, hF⟩ := h
  rcases hr.2 with ⟨rfl, _⟩ | ⟨g, cap, cur, rfl, _, hg, _⟩
  · cases e
  simp only [Value.ownBlock, Option.some.injEq] at e
  subst e
  rcases (hF g).1 hq with e | e | e | ⟨i, hi, e⟩
  · rw [e, hW] at hg; simp only [Option.some.injEq, Obj.cells.injEq] at hg; exact absurd hg.2.1 (by decide)
  · obtain ⟨cs, hc, _⟩ := hT.tb
    rw [e, hc] at hg; simp only [Option.some.injEq, Obj.cells.injEq] at hg; exact absurd hg.2.1 (by decide)
  · obtain ⟨es, cl, hm⟩ := hT.mp.isMap
    rw [e, hm] at hg; cases hg
  · rcases (hT.row i hi).2 with ⟨e0, _⟩ | ⟨g1, c1, u1, e1, _, b1, _⟩
    · rw [e0] at e; cases e
    · rw [e1] at e
      simp only [Value.ownBlock, Option.some.injEq] at e
      rw [e, hg] at b1; simp only [Option.some.injEq, Obj.cells.injEq] at b1; exact absurd b1.2.1 (by decide)
theorem RWl.off {P : Nat → Prop} {w w' : World} {rb now : Nat} {S : List Tm} {a : Option Addr} {n c : Nat} (h : RWl w rb now S a n c) (o : Off P w w') (h1 : ¬ P rb) (h2 : ∀ g, (Value.slice a n c).ownBlock = some g → ¬ P g) : RWl w' rb now S a n c :=
  ⟨fun j => (o.cell (p := ⟨rb, j, none⟩) h.lt h1).trans (h.cell j), fun j => (o.frozen (p := ⟨rb, j, none⟩) h.lt h1).trans (h.free j), Nat.lt_of_lt_of_le h.lt o.size, ERow.off h.row o h2, by obtain ⟨cs, e⟩ := h.typ; exact ⟨cs, (o.block rb h.lt h1).trans e⟩⟩
/-- Both wheels, as they are between two calls. -/
structure PI (w0 X : World) (W rb now : Nat) (S : List Tm) (F : Nat → Prop) : Prop where
  wh : Whl X w0.heap.size W now S F
  rw : ∃ a n c, RWl X rb now S a n c
  lo : w0.heap.size ≤ rb
  nb : ¬ F rb
  b : Below w0.heap.size w0 X
def PQ (w0 X0 : World) (F0 : Nat → Prop) (W rb : Nat) (X : World) : Prop := ∃ now S F, PI w0 X W rb now S F ∧ Off (fun q => F0 q ∨ q = rb) X0 X ∧ ∀ q, F q → F0 q ∨ X0.heap.size ≤ q
theorem PI.below {w0 X Y : World} {W rb now : Nat} {S : List Tm} {F : Nat → Prop} (h : PI w0 X W rb now S F) (hb : Below X.heap.size X Y) : PI w0 Y W rb now S F :=
  ⟨h.wh.below hb, (by obtain ⟨a, n, c, r⟩ := h.rw; exact ⟨a, n, c, r.below hb⟩), h.lo, h.nb, below_then h.b hb⟩
/-- In a call: the program's wheel at (nw, Sw), the document's at (nr, Sr). -/
structure PlJ (w0 X0 : World) (F0 : Nat → Prop) (W rb : Nat) (kd ky : Int) (s : ByteArray) (tk : Int) (nw : Nat) (Sw : List Tm) (F : Nat → Prop) (nr : Nat) (Sr : List Tm) (X : World) : Prop where
  wh : Whl X w0.heap.size W nw Sw F
  rw : ∃ a n c, RWl X rb nr Sr a n c
  lo : w0.heap.size ≤ rb
  lt : rb < X0.heap.size
  fr : Off (fun q => F0 q ∨ q = rb) X0 X
  fo : ∀ q, F q → F0 q ∨ X0.heap.size ≤ q
  nf : ∀ q, F q → q < X0.heap.size ∨ X0.heap.size + 2 ≤ q
  nb : ¬ F rb
  hi : X0.heap.size + 2 ≤ X.heap.size
  b : Below w0.heap.size w0 X
  o : ∀ j, X.cell? ⟨X0.heap.size, j, none⟩ = (#[.int .i64 kd, .int .i64 ky, .string s, .int .i64 tk] : Array Value)[j]?
  k : ∀ j, X.cell? ⟨X0.heap.size + 1, j, none⟩ = (#[.int .i64 ky, .string ⟨#[]⟩] : Array Value)[j]?
def Jq (w0 X0 : World) (F0 : Nat → Prop) (W rb : Nat) (kd ky : Int) (s : ByteArray) (tk : Int) (nw : Nat) (Sw : List Tm) (nr : Nat) (Sr : List Tm) (X : World) : Prop := ∃ F, PlJ w0 X0 F0 W rb kd ky s tk nw Sw F nr Sr X
section
variable {w0 X0 X Y : World} {F0 : Nat → Prop} {W rb : Nat} {kd ky : Int} {s : ByteArray} {tk : Int} {nw : Nat} {Sw : List Tm} {F : Nat → Prop} {nr : Nat} {Sr : List Tm}
theorem PlJ.below (h : PlJ w0 X0 F0 W rb kd ky s tk nw Sw F nr Sr X) (hb : Below X.heap.size X Y) : PlJ w0 X0 F0 W rb kd ky s tk nw Sw F nr Sr Y :=
  ⟨h.wh.below hb, (by obtain ⟨a, n, c, r⟩ := h.rw; exact ⟨a, n, c, r.below hb⟩), h.lo, h.lt, h.fr.trans (Off.of_below hb), h.fo, h.nf, h.nb, Nat.le_trans h.hi hb.size, below_then h.b hb, fun j => (hb.cell (p := ⟨X0.heap.size, j, none⟩) (by have := h.hi; show X0.heap.size < _; omega)).trans (h.o j), fun j => (hb.cell (p := ⟨X0.heap.size + 1, j, none⟩) (by have := h.hi; show X0.heap.size + 1 < _; omega)).trans (h.k j)⟩
theorem PlJ.prog {nw' : Nat} {Sw' : List Tm} (h : PlJ w0 X0 F0 W rb kd ky s tk nw Sw F nr Sr X) {F' : Nat → Prop} (hw : Whl Y w0.heap.size W nw' Sw' F') (ho : Off F X Y) (hf : ∀ q, F' q → F q ∨ X.heap.size ≤ q) : PlJ w0 X0 F0 W rb kd ky s tk nw' Sw' F' nr Sr Y := by
  obtain ⟨a, n, c, r⟩ := h.rw
  have hi := h.hi
  have nZ : ¬ F X0.heap.size := fun e => by rcases h.nf X0.heap.size e with g | g <;> omega
  have nZ1 : ¬ F (X0.heap.size + 1) := fun e => by rcases h.nf (X0.heap.size + 1) e with g | g <;> omega
  refine ⟨hw, ⟨a, n, c, r.off ho h.nb (fun g hg hF => h.wh.nrow r.row hF hg)⟩, h.lo, h.lt, h.fr.join ho (fun i hi' e => Or.inl ((h.fo i e).resolve_right (by omega))), fun q hq => ?_, fun q hq => ?_, fun e => ?_, Nat.le_trans hi ho.size, h.b.trans (ho.below h.b.size fun q hq => (h.wh.foot hq).1), fun j => (ho.cell (p := ⟨X0.heap.size, j, none⟩) (by show X0.heap.size < _; omega) nZ).trans (h.o j), fun j => (ho.cell (p := ⟨X0.heap.size + 1, j, none⟩) (by show X0.heap.size + 1 < _; omega) nZ1).trans (h.k j)⟩
  · rcases hf q hq with g | g
    · exact h.fo q g
    · exact Or.inr (Nat.le_trans h.fr.size g)
  · rcases hf q hq with g | g
    · exact h.nf q g
    · exact Or.inr (by omega)
  · rcases hf rb e with g | g
    · exact h.nb g
    · have := r.lt; omega
theorem PlJ.doc {nr' : Nat} {Sr' : List Tm} (h : PlJ w0 X0 F0 W rb kd ky s tk nw Sw F nr Sr X) (hq : RWQ X rb nr' Sr' Y) : PlJ w0 X0 F0 W rb kd ky s tk nw Sw F nr' Sr' Y := by
  obtain ⟨a, n, c, r, ho⟩ := hq
  have hi := h.hi
  have hl := h.lt
  refine ⟨h.wh.off ho (fun q hq (e : q = rb) => h.nb (e ▸ hq)), ⟨a, n, c, r⟩, h.lo, h.lt, h.fr.join ho (fun _ _ e => Or.inr e), h.fo, h.nf, h.nb, Nat.le_trans hi ho.size, h.b.trans (ho.below h.b.size fun q (e : q = rb) => by rw [e]; exact h.lo), fun j => (ho.cell (p := ⟨X0.heap.size, j, none⟩) (by show X0.heap.size < _; omega) (fun (e : X0.heap.size = rb) => by omega)).trans (h.o j), fun j => (ho.cell (p := ⟨X0.heap.size + 1, j, none⟩) (by show X0.heap.size + 1 < _; omega) (fun (e : X0.heap.size + 1 = rb) => by omega)).trans (h.k j)⟩
theorem Jq.below (h : Jq w0 X0 F0 W rb kd ky s tk nw Sw nr Sr X) (hb : Below X.heap.size X Y) : Jq w0 X0 F0 W rb kd ky s tk nw Sw nr Sr Y := by obtain ⟨F, h⟩ := h; exact ⟨F, h.below hb⟩
theorem Jq.drew (h : Jq w0 X0 F0 W rb kd ky s tk nw Sw nr Sr X) : Jq w0 X0 F0 W rb kd ky s tk nw Sw nr Sr X.drew := h.below (Below.drew (Below.refl _ _))
theorem Jq.drewN (h : Jq w0 X0 F0 W rb kd ky s tk nw Sw nr Sr X) (q : Nat) : Jq w0 X0 F0 W rb kd ky s tk nw Sw nr Sr (X.drewN q) := h.below (below_drewN (Below.refl _ _) q)
theorem Jq.prog {nw' : Nat} {Sw' : List Tm} (h : PlJ w0 X0 F0 W rb kd ky s tk nw Sw F nr Sr X) (hq : WhQ X w0.heap.size W nw' Sw' F Y) : Jq w0 X0 F0 W rb kd ky s tk nw' Sw' nr Sr Y := by
  obtain ⟨F', hw, ho, hf⟩ := hq
  exact ⟨F', h.prog hw ho hf⟩
theorem Jq.o (h : Jq w0 X0 F0 W rb kd ky s tk nw Sw nr Sr X) : ∀ j, X.cell? ⟨X0.heap.size, j, none⟩ = (#[.int .i64 kd, .int .i64 ky, .string s, .int .i64 tk] : Array Value)[j]? := by obtain ⟨F, h⟩ := h; exact h.o
theorem Jq.k (h : Jq w0 X0 F0 W rb kd ky s tk nw Sw nr Sr X) : ∀ j, X.cell? ⟨X0.heap.size + 1, j, none⟩ = (#[.int .i64 ky, .string ⟨#[]⟩] : Array Value)[j]? := by obtain ⟨F, h⟩ := h; exact h.k
theorem Jq.held (h : Jq w0 X0 F0 W rb kd ky s tk nw Sw nr Sr X) : Held nw Sw ∧ Sw.length ≤ 4096 := by obtain ⟨F, h⟩ := h; exact h.wh.held
theorem Jq.b (h : Jq w0 X0 F0 W rb kd ky s tk nw Sw nr Sr X) : Below w0.heap.size w0 X := by obtain ⟨F, h⟩ := h; exact h.b
theorem Jq.fin (h : Jq w0 X0 F0 W rb kd ky s tk nw Sw nw Sw X) : PQ w0 X0 F0 W rb X := by
  obtain ⟨F, h⟩ := h
  exact ⟨nw, Sw, F, ⟨h.wh, h.rw, h.lo, h.nb, h.b⟩, h.fr, h.fo⟩
theorem Jq.start {now : Nat} {S : List Tm} (kd ky : Int) (s : ByteArray) (tk : Int) (h : PI w0 X W rb now S F) : Jq w0 X F W rb kd ky s tk now S now S ((X.alloc (.cells #[.int .i64 kd, .int .i64 ky, .string s, .int .i64 tk] 44)).alloc (.cells #[.int .i64 ky, .string ⟨#[]⟩] 98)) := by
  have b1 := (Below.refl X.heap.size X).alloc (Nat.le_refl _) (.cells #[.int .i64 kd, .int .i64 ky, .string s, .int .i64 tk] 44)
  have b2 : Below X.heap.size X ((X.alloc (.cells #[.int .i64 kd, .int .i64 ky, .string s, .int .i64 tk] 44)).alloc (.cells #[.int .i64 ky, .string ⟨#[]⟩] 98)) := b1.alloc b1.size _
  have h2 := h.below b2
  refine ⟨F, h2.wh, h2.rw, h.lo, ?_, Off.of_below b2, fun q hq => Or.inl hq, fun q hq => Or.inl (h.wh.foot hq).2, h.nb, by simp, h2.b, fun j => ?_, fun j => ?_⟩
  · obtain ⟨a, n, c, r⟩ := h.rw; exact r.lt
  · rw [World.cell?_alloc_lt _ _ ⟨X.heap.size, j, none⟩ (by simp)]
    exact cell_new X _ _ j
  · have := cell_new (X.alloc (.cells #[.int .i64 kd, .int .i64 ky, .string s, .int .i64 tk] 44)) #[.int .i64 ky, .string ⟨#[]⟩] 98 j
    rw [World.size_alloc] at this
    exact this
end
/-! ### the calls, in the state -/
section
variable {w0 X0 z : World} {F0 : Nat → Prop} {W rb : Nat} {kd ky : Int} {s : ByteArray} {tk : Int} {nw : Nat} {S Sw : List Tm} {nr now : Nat} {Sr : List Tm}
theorem FltAt.fault {w : World} {B b : Nat} {c : Int} (h : FltAt w B b c) : FaultAt w b c := by
  have := h.2
  unfold FaultAt World.cell?
  simp [this]
theorem jis_ok (h : Jq w0 X0 F0 W rb kd ky s tk nw Sw nr Sr z) : Calls Tryd.prog 6 #[.nilIface, .int .i64 0] z fun e w' => e = .returned (.bool true) ∧ Hid (Jq w0 X0 F0 W rb kd ky s tk nw Sw nr Sr w') ∧ (∀ j, w'.cell? ⟨X0.heap.size, j, none⟩ = (#[.int .i64 kd, .int .i64 ky, .string s, .int .i64 tk] : Array Value)[j]?) ∧ (∀ j, w'.cell? ⟨X0.heap.size + 1, j, none⟩ = (#[.int .i64 ky, .string ⟨#[]⟩] : Array Value)[j]?) :=
  (isOk z).mono fun _ _ ⟨he, hw⟩ => by rw [hw]; exact ⟨he, h, h.o, h.k⟩
theorem jis_f (hE : ErrType w0) {b : Nat} {c : Int} (hc : (c == 0) = false) (h : Jq w0 X0 F0 W rb kd ky s tk nw Sw nr Sr z) (hf : FaultAt z b c) : Calls Tryd.prog 6 #[.iface 56 (.pointer (some ⟨b, 0, none⟩)), .int .i64 c] z fun e w' => e = .returned (.bool true) ∧ Hid (Jq w0 X0 F0 W rb kd ky s tk nw Sw nr Sr w') ∧ (∀ j, w'.cell? ⟨X0.heap.size, j, none⟩ = (#[.int .i64 kd, .int .i64 ky, .string s, .int .i64 tk] : Array Value)[j]?) ∧ (∀ j, w'.cell? ⟨X0.heap.size + 1, j, none⟩ = (#[.int .i64 ky, .string ⟨#[]⟩] : Array Value)[j]?) :=
  (isFault b c z hc (errType_below hE h.b) hf).mono fun _ _ ⟨he, hb⟩ => ⟨he, h.below hb, (h.below hb).o, (h.below hb).k⟩
/-- What Set comes to: 0, or the fault's number. -/
def setE (now : Nat) (S : List Tm) (k t : Int) : Int := if t ≤ now ∨ 1099511627776 < t then 2 else if plI k S = -1 ∧ 4096 ≤ S.length then 7 else 0
theorem jset_f (h : Jq w0 X0 F0 W rb kd ky s tk now S nr Sr z) (hky : KeyI ky) {c : Int} (hc : setE now S ky tk = c) (hc0 : c ≠ 0) : Calls Tryd.prog 13 #[.pointer (some ⟨W, 0, none⟩), .int .i64 ky, .int .i64 tk] z fun e w' => ∃ b, e = .returned (.iface 56 (.pointer (some ⟨b, 0, none⟩))) ∧ Hid (FaultAt w' b c ∧ Jq w0 X0 F0 W rb kd ky s tk now S nr Sr w') ∧ (∀ j, w'.cell? ⟨X0.heap.size, j, none⟩ = (#[.int .i64 kd, .int .i64 ky, .string s, .int .i64 tk] : Array Value)[j]?) ∧ (∀ j, w'.cell? ⟨X0.heap.size + 1, j, none⟩ = (#[.int .i64 ky, .string ⟨#[]⟩] : Array Value)[j]?) := by
  obtain ⟨F, g⟩ := h
  have hJ : Jq w0 X0 F0 W rb kd ky s tk now S nr Sr z := ⟨F, g⟩
  unfold setE at hc
  split at hc
  · rename_i ht
    subst hc
    refine (set_range g.wh ky ht).mono ?_
    rintro e w' ⟨b, he, rfl, rfl⟩
    have hb := (Below.refl z.heap.size z).alloc (Nat.le_refl _) (.cells #[.string ⟨#[119, 104, 101, 101, 108]⟩, .int .i64 0, .int .i64 2, .nilIface] 60)
    exact ⟨_, he, ⟨fault_new z 2, hJ.below hb⟩, (hJ.below hb).o, (hJ.below hb).k⟩
  · rename_i ht
    split at hc
    · rename_i hp
      subst hc
      obtain ⟨t, rfl⟩ : ∃ t : Nat, tk = t := ⟨tk.toNat, by omega⟩
      refine (set_full g.wh hky (t := t) (by omega) (by unfold MaxT; omega) (pl_ne hp.1) (by have := g.wh.held.2; omega)).mono ?_
      rintro e w' ⟨b, he, hf, hb⟩
      exact ⟨b, he, ⟨hf.fault, hJ.below hb⟩, (hJ.below hb).o, (hJ.below hb).k⟩
    · exact absurd hc.symm hc0
theorem jrset_f (h : Jq w0 X0 F0 W rb kd ky s tk nw Sw now S z) {b : Nat} {c : Int} (hl : S.length ≤ 4096) (hc : setE now S ky tk = c) (hc0 : c ≠ 0) (hf : FaultAt z b c) : Calls Tryd.prog 37 #[.pointer (some ⟨rb, 0, none⟩), .agg #[.int .i64 ky, .string ⟨#[]⟩], .int .i64 tk] z fun e w' => e = .returned (.int .i64 c) ∧ Hid (FaultAt w' b c ∧ Jq w0 X0 F0 W rb kd ky s tk nw Sw now S w') ∧ (∀ j, w'.cell? ⟨X0.heap.size, j, none⟩ = (#[.int .i64 kd, .int .i64 ky, .string s, .int .i64 tk] : Array Value)[j]?) ∧ (∀ j, w'.cell? ⟨X0.heap.size + 1, j, none⟩ = (#[.int .i64 ky, .string ⟨#[]⟩] : Array Value)[j]?) := by
  obtain ⟨F, g⟩ := h
  have hJ : Jq w0 X0 F0 W rb kd ky s tk nw Sw now S z := ⟨F, g⟩
  obtain ⟨a, n, cc, r⟩ := g.rw
  unfold setE at hc
  split at hc
  · rename_i ht
    subst hc
    refine (rset_range r ky tk ht).mono ?_
    rintro e w' ⟨he, hb⟩
    exact ⟨he, ⟨faultAt_below hf hb, hJ.below hb⟩, (hJ.below hb).o, (hJ.below hb).k⟩
  · rename_i ht
    split at hc
    · rename_i hp
      subst hc
      obtain ⟨t, rfl⟩ : ∃ t : Nat, tk = t := ⟨tk.toNat, by omega⟩
      refine (rset_full r ky t (by omega) (by omega) hp.2 (by omega) hp.1).mono ?_
      rintro e w' ⟨he, hb⟩
      exact ⟨he, ⟨faultAt_below hf hb, hJ.below hb⟩, (hJ.below hb).o, (hJ.below hb).k⟩
    · exact absurd hc.symm hc0
theorem keyNe_len {k : Int} {t p : Nat} {S : List Tm} (hu : Uniq S) (h : S[p]? = some (k, t)) : (S.filter (keyNe k)).length < S.length := by
  have hp := (List.getElem?_eq_some_iff.1 h).1
  rw [← erase_key hu h, List.length_eraseIdx_of_lt hp]
  omega
theorem jset_ok (h : Jq w0 X0 F0 W rb kd ky s tk now S nr Sr z) (hky : KeyI ky) (hc : setE now S ky tk = 0) : Calls Tryd.prog 13 #[.pointer (some ⟨W, 0, none⟩), .int .i64 ky, .int .i64 tk] z fun e w' => e = .returned .nilIface ∧ Hid (Jq w0 X0 F0 W rb kd ky s tk now (setS ky tk.toNat S) nr Sr w') ∧ (∀ j, w'.cell? ⟨X0.heap.size, j, none⟩ = (#[.int .i64 kd, .int .i64 ky, .string s, .int .i64 tk] : Array Value)[j]?) ∧ (∀ j, w'.cell? ⟨X0.heap.size + 1, j, none⟩ = (#[.int .i64 ky, .string ⟨#[]⟩] : Array Value)[j]?) := by
  obtain ⟨F, g⟩ := h
  unfold setE at hc
  split at hc
  · omega
  rename_i ht
  split at hc
  · omega
  rename_i hp
  obtain ⟨t, rfl⟩ : ∃ t : Nat, tk = t := ⟨tk.toNat, by omega⟩
  have hl := g.wh.held
  have hroom : (S.filter (keyNe ky)).length < 4096 := by
    rcases pl_cases ky S with hq | ⟨i, u, _, hi⟩
    · rw [filter_key hq]; omega
    · have := keyNe_len hl.1.uq hi; omega
  refine (set_ok g.wh g.b.size hky (t := t) (by omega) (by unfold MaxT; omega) hroom).mono ?_
  rintro e w' ⟨he, hq⟩
  have hJ := Jq.prog g hq
  exact ⟨he, hJ, hJ.o, hJ.k⟩
theorem jrset_ok (h : Jq w0 X0 F0 W rb kd ky s tk nw Sw now S z) (hl : S.length ≤ 4096) (hu : Uniq S) (hc : setE now S ky tk = 0) : Calls Tryd.prog 37 #[.pointer (some ⟨rb, 0, none⟩), .agg #[.int .i64 ky, .string ⟨#[]⟩], .int .i64 tk] z fun e w' => e = .returned (.int .i64 0) ∧ Hid (Jq w0 X0 F0 W rb kd ky s tk nw Sw now (setS ky tk.toNat S) w') ∧ (∀ j, w'.cell? ⟨X0.heap.size, j, none⟩ = (#[.int .i64 kd, .int .i64 ky, .string s, .int .i64 tk] : Array Value)[j]?) ∧ (∀ j, w'.cell? ⟨X0.heap.size + 1, j, none⟩ = (#[.int .i64 ky, .string ⟨#[]⟩] : Array Value)[j]?) := by
  obtain ⟨F, g⟩ := h
  obtain ⟨a, n, cc, r⟩ := g.rw
  unfold setE at hc
  split at hc
  · omega
  rename_i ht
  split at hc
  · omega
  rename_i hp
  obtain ⟨t, rfl⟩ : ∃ t : Nat, tk = t := ⟨tk.toNat, by omega⟩
  rcases pl_cases ky S with hq | ⟨i, u, hq, hi⟩
  · refine (rset_new r ky t (by omega) (by omega) (by omega) hq).mono ?_
    rintro e w' ⟨he, hq⟩
    have hJ : Jq w0 X0 F0 W rb kd ky s t nw Sw now (setS ky t S) w' := ⟨F, g.doc hq⟩
    exact ⟨he, hJ, hJ.o, hJ.k⟩
  · refine (rset_old r hu ky t (by omega) (by omega) hl hq hi).mono ?_
    rintro e w' ⟨he, hq⟩
    have hJ : Jq w0 X0 F0 W rb kd ky s t nw Sw now (setS ky t S) w' := ⟨F, g.doc hq⟩
    exact ⟨he, hJ, hJ.o, hJ.k⟩
theorem jstop (h : Jq w0 X0 F0 W rb kd ky s tk now S nr Sr z) (hky : KeyI ky) {b : Bool} (hb : b = decide (0 ≤ plI ky S)) : Calls Tryd.prog 38 #[.pointer (some ⟨W, 0, none⟩), .int .i64 ky] z fun e w' => e = .returned (.bool b) ∧ Hid (Jq w0 X0 F0 W rb kd ky s tk now (S.filter (keyNe ky)) nr Sr w') ∧ (∀ j, w'.cell? ⟨X0.heap.size, j, none⟩ = (#[.int .i64 kd, .int .i64 ky, .string s, .int .i64 tk] : Array Value)[j]?) ∧ (∀ j, w'.cell? ⟨X0.heap.size + 1, j, none⟩ = (#[.int .i64 ky, .string ⟨#[]⟩] : Array Value)[j]?) := by
  obtain ⟨F, g⟩ := h
  refine (stops_any g.wh hky).mono ?_
  rintro e w' ⟨b', he, hi, hq⟩
  have hJ := Jq.prog g hq.out
  have : b' = b := by
    rw [hb]
    rcases pl_cases ky S with hq | ⟨i, u, hq, hiu⟩
    · have hn : ¬ ∃ x ∈ S, x.1 = ky := fun ⟨x, hx, e⟩ => pl_ne hq x hx e
      rw [hq]
      cases b' with
      | false => rfl
      | true => exact absurd (hi.1 rfl) hn
    · rw [hq, hi.2 ⟨_, List.mem_of_getElem? hiu, rfl⟩]
      exact (decide_eq_true (by omega)).symm
  subst this
  exact ⟨he, hJ, hJ.o, hJ.k⟩
theorem jrstop (h : Jq w0 X0 F0 W rb kd ky s tk nw Sw now S z) (hl : S.length ≤ 4096) (hu : Uniq S) {b : Bool} (hb : b = decide (0 ≤ plI ky S)) : Calls Tryd.prog 39 #[.pointer (some ⟨rb, 0, none⟩), .agg #[.int .i64 ky, .string ⟨#[]⟩]] z fun e w' => e = .returned (.bool b) ∧ Hid (Jq w0 X0 F0 W rb kd ky s tk nw Sw now (S.filter (keyNe ky)) w') ∧ (∀ j, w'.cell? ⟨X0.heap.size, j, none⟩ = (#[.int .i64 kd, .int .i64 ky, .string s, .int .i64 tk] : Array Value)[j]?) ∧ (∀ j, w'.cell? ⟨X0.heap.size + 1, j, none⟩ = (#[.int .i64 ky, .string ⟨#[]⟩] : Array Value)[j]?) := by
  obtain ⟨F, g⟩ := h
  obtain ⟨a, n, cc, r⟩ := g.rw
  refine (rstop_any r hu ky (by omega)).mono ?_
  rintro e w' ⟨he, hq⟩
  have hJ : Jq w0 X0 F0 W rb kd ky s tk nw Sw now (S.filter (keyNe ky)) w' := ⟨F, g.doc hq⟩
  exact ⟨by rw [he, hb], hJ, hJ.o, hJ.k⟩
end
end Go.Proofs.YtdglnobapnohmaaDoor

/-
  The calls, in the state of both wheels: Advance, Next, At, Now, Len, All.
-/
namespace Go.Proofs.YtdglnobapnohmaaDoor
open Go.RowKit

/-- Behind the program's Advance: what it tells lies apart. -/
def AdS (w0 X0 : World) (F0 : Nat → Prop) (W rb : Nat) (kd ky : Int) (s : ByteArray) (tk : Int) (to_ : Nat) (S : List Tm) (nr : Nat) (Sr : List Tm) (lv : Value) (X : World) : Prop := ∃ F, PlJ w0 X0 F0 W rb kd ky s tk to_ (S.filter (past to_)) F nr Sr X ∧ TRow X w0.heap.size lv (S.filter (upto to_)) ∧ ∀ q, lv.ownBlock = some q → q ≠ rb
/-- A list of the program's and one of the document's that tell the same. -/
def NmS (w0 X0 : World) (F0 : Nat → Prop) (W rb : Nat) (kd ky : Int) (s : ByteArray) (tk : Int) (nw : Nat) (Sw : List Tm) (xs : List Tm) (lv mv : Value) (X : World) : Prop := Jq w0 X0 F0 W rb kd ky s tk nw Sw nw Sw X ∧ (∃ B, TRow X B lv xs) ∧ (∃ B, RRow X B mv xs) ∧ xs.length ≤ 4096
/-- Two of the document's lists that tell the same. -/
def LkS (w0 X0 : World) (F0 : Nat → Prop) (W rb : Nat) (kd ky : Int) (s : ByteArray) (tk : Int) (nw : Nat) (Sw : List Tm) (xs : List Tm) (lv mv : Value) (X : World) : Prop := Jq w0 X0 F0 W rb kd ky s tk nw Sw nw Sw X ∧ (∃ B, RRow X B lv xs) ∧ (∃ B, RRow X B mv xs) ∧ xs.length ≤ 4096
section
variable {w0 X0 z : World} {F0 : Nat → Prop} {W rb : Nat} {kd ky : Int} {s : ByteArray} {tk : Int} {nw : Nat} {S Sw xs : List Tm} {nr now t : Nat} {Sr : List Tm} {lv mv : Value}
theorem AdS.drew (h : AdS w0 X0 F0 W rb kd ky s tk t S nr Sr lv z) : AdS w0 X0 F0 W rb kd ky s tk t S nr Sr lv z.drew := by
  obtain ⟨F, h1, h2, h3⟩ := h
  have hb := Below.drew (Below.refl z.heap.size z)
  exact ⟨F, h1.below hb, h2.below hb, h3⟩
theorem NmS.below {z' : World} (h : NmS w0 X0 F0 W rb kd ky s tk nw Sw xs lv mv z) (hb : Below z.heap.size z z') : NmS w0 X0 F0 W rb kd ky s tk nw Sw xs lv mv z' := by
  obtain ⟨h1, ⟨B, h2⟩, ⟨B', h3⟩, h4⟩ := h
  exact ⟨h1.below hb, ⟨B, h2.below hb⟩, ⟨B', h3.below hb⟩, h4⟩
theorem LkS.below {z' : World} (h : LkS w0 X0 F0 W rb kd ky s tk nw Sw xs lv mv z) (hb : Below z.heap.size z z') : LkS w0 X0 F0 W rb kd ky s tk nw Sw xs lv mv z' := by
  obtain ⟨h1, ⟨B, h2⟩, ⟨B', h3⟩, h4⟩ := h
  exact ⟨h1.below hb, ⟨B, h2.below hb⟩, ⟨B', h3.below hb⟩, h4⟩
theorem NmS.drew (h : NmS w0 X0 F0 W rb kd ky s tk nw Sw xs lv mv z) : NmS w0 X0 F0 W rb kd ky s tk nw Sw xs lv mv z.drew := h.below (Below.drew (Below.refl _ _))
theorem NmS.drewN (h : NmS w0 X0 F0 W rb kd ky s tk nw Sw xs lv mv z) (q : Nat) : NmS w0 X0 F0 W rb kd ky s tk nw Sw xs lv mv (z.drewN q) := h.below (below_drewN (Below.refl _ _) q)
theorem LkS.drew (h : LkS w0 X0 F0 W rb kd ky s tk nw Sw xs lv mv z) : LkS w0 X0 F0 W rb kd ky s tk nw Sw xs lv mv z.drew := h.below (Below.drew (Below.refl _ _))
theorem LkS.drewN (h : LkS w0 X0 F0 W rb kd ky s tk nw Sw xs lv mv z) (q : Nat) : LkS w0 X0 F0 W rb kd ky s tk nw Sw xs lv mv (z.drewN q) := h.below (below_drewN (Below.refl _ _) q)
theorem jadv_f (h : Jq w0 X0 F0 W rb kd ky s tk now S nr Sr z) (ht : tk < (now : Int) ∨ 1099511627776 < tk) : Calls Tryd.prog 14 #[.pointer (some ⟨W, 0, none⟩), .int .i64 tk] z fun e w' => ∃ b, e = .returned (.tuple #[.slice none 0 0, .iface 56 (.pointer (some ⟨b, 0, none⟩))]) ∧ Hid (FaultAt w' b 2 ∧ Jq w0 X0 F0 W rb kd ky s tk now S nr Sr w') ∧ (∀ j, w'.cell? ⟨X0.heap.size, j, none⟩ = (#[.int .i64 kd, .int .i64 ky, .string s, .int .i64 tk] : Array Value)[j]?) := by
  obtain ⟨F, g⟩ := h
  have hJ : Jq w0 X0 F0 W rb kd ky s tk now S nr Sr z := ⟨F, g⟩
  refine (adv_range g.wh ht).mono ?_
  rintro e w' ⟨b, he, rfl, rfl⟩
  have hb := (Below.refl z.heap.size z).alloc (Nat.le_refl _) (.cells #[.string ⟨#[119, 104, 101, 101, 108]⟩, .int .i64 0, .int .i64 2, .nilIface] 60)
  exact ⟨_, he, ⟨fault_new z 2, hJ.below hb⟩, (hJ.below hb).o⟩
theorem jradv_f (h : Jq w0 X0 F0 W rb kd ky s tk nw Sw now S z) {b : Nat} (ht : tk < (now : Int) ∨ 1099511627776 < tk) (hf : FaultAt z b 2) : Calls Tryd.prog 16 #[.pointer (some ⟨rb, 0, none⟩), .int .i64 tk] z fun e w' => e = .returned (.tuple #[.slice none 0 0, .int .i64 2]) ∧ Hid (FaultAt w' b 2 ∧ Jq w0 X0 F0 W rb kd ky s tk nw Sw now S w') := by
  obtain ⟨F, g⟩ := h
  have hJ : Jq w0 X0 F0 W rb kd ky s tk nw Sw now S z := ⟨F, g⟩
  obtain ⟨a, n, cc, r⟩ := g.rw
  refine (radv_range r tk ht).mono ?_
  rintro e w' ⟨he, hb⟩
  exact ⟨he, faultAt_below hf hb, hJ.below hb⟩
theorem jadv_ok (h : Jq w0 X0 F0 W rb kd ky s t now S nr Sr z) (h1 : now ≤ t) (h2 : t ≤ MaxT) : Calls Tryd.prog 14 #[.pointer (some ⟨W, 0, none⟩), .int .i64 (t : Int)] z fun e w' => ∃ a1 n1 c1, e = .returned (.tuple #[.slice a1 n1 c1, .nilIface]) ∧ Hid (AdS w0 X0 F0 W rb kd ky s t t S nr Sr (.slice a1 n1 c1) w') ∧ (∀ j, w'.cell? ⟨X0.heap.size, j, none⟩ = (#[.int .i64 kd, .int .i64 ky, .string s, .int .i64 t] : Array Value)[j]?) := by
  obtain ⟨F, g⟩ := h
  refine (adv_ok g.wh g.b.size h1 h2).mono ?_
  rintro e w' ⟨a1, n1, c1, he, F', hw, hr, ho, hf, hd⟩
  have hJ := g.prog hw ho hf
  refine ⟨a1, n1, c1, he, ⟨F', hJ, hr, fun q hq => ?_⟩, hJ.o⟩
  have q1 := (hd q hq).1
  have q2 := g.hi
  have q3 := g.lt
  omega
theorem jradv_ok (h : AdS w0 X0 F0 W rb kd ky s t t S now S lv z) (h1 : now ≤ t) (h2 : t ≤ MaxT) (hl : S.length ≤ 4096) : Calls Tryd.prog 16 #[.pointer (some ⟨rb, 0, none⟩), .int .i64 (t : Int)] z fun e w' => ∃ a1 n1 c1, e = .returned (.tuple #[.slice a1 n1 c1, .int .i64 0]) ∧ Hid (NmS w0 X0 F0 W rb kd ky s t t (S.filter (past t)) (S.filter (upto t)) lv (.slice a1 n1 c1) w') := by
  obtain ⟨F, g, hT, hn⟩ := h
  obtain ⟨a, n, cc, r⟩ := g.rw
  refine (radv_ok r t h1 h2 (by omega)).mono ?_
  rintro e w' ⟨a1, n1, c1, he, hr, hq⟩
  obtain ⟨a3, n3, c3, hr3, ho⟩ := hq
  have hJ := g.doc ⟨a3, n3, c3, hr3, ho⟩
  have := g.hi
  have hll := List.length_filter_le (upto t) S
  exact ⟨a1, n1, c1, he, ⟨F, hJ⟩, ⟨_, ERow.off hT ho (fun q hq (e : q = rb) => hn q hq e)⟩, ⟨_, hr⟩, by omega⟩
theorem jis_t (h : NmS w0 X0 F0 W rb kd ky s tk nw Sw xs lv mv z) : Calls Tryd.prog 6 #[.nilIface, .int .i64 0] z fun e w' => e = .returned (.bool true) ∧ Hid (NmS w0 X0 F0 W rb kd ky s tk nw Sw xs lv mv w') :=
  (isOk z).mono fun _ _ ⟨he, hw⟩ => by rw [hw]; exact ⟨he, h⟩
theorem jnum0 (h : Jq w0 X0 F0 W rb kd ky s tk nw Sw nw Sw z) : NmS w0 X0 F0 W rb kd ky s tk nw Sw [] (.slice none 0 0) (.slice none 0 0) z := ⟨h, ⟨0, ERow.nil _ _ _ _ _⟩, ⟨0, ERow.nil _ _ _ _ _⟩, by simp⟩
theorem jnum {a : Option Addr} {n c : Nat} (h : NmS w0 X0 F0 W rb kd ky s tk nw Sw xs (.slice a n c) mv z) : Calls Tryd.prog 18 #[.slice a n c] z fun e w' => ∃ a1 n1 c1, e = .returned (.slice a1 n1 c1) ∧ Hid (LkS w0 X0 F0 W rb kd ky s tk nw Sw xs (.slice a1 n1 c1) mv w' ∧ Below z.heap.size z w') := by
  obtain ⟨h1, ⟨B, h2⟩, ⟨B', h3⟩, h4⟩ := h
  refine (numbers_any h2 (by omega)).mono ?_
  rintro e w' ⟨a1, n1, c1, he, hr, hb⟩
  exact ⟨a1, n1, c1, he, ⟨h1.below hb, ⟨_, hr⟩, ⟨_, h3.below hb⟩, h4⟩, hb⟩
theorem jlike {a a' : Option Addr} {n c n' c' : Nat} (h : LkS w0 X0 F0 W rb kd ky s tk nw Sw xs (.slice a n c) (.slice a' n' c') z) : Calls Tryd.prog 17 #[.slice a n c, .slice a' n' c'] z fun e w' => e = .returned (.bool true) ∧ Hid (PQ w0 X0 F0 W rb w' ∧ ∃ q, w' = z.drewN q) := by
  obtain ⟨hJ, ⟨B, h1⟩, ⟨B', h2⟩, hl⟩ := h
  refine (like_true h1 h2 (by omega)).mono ?_
  rintro e w' ⟨he, q, rfl⟩
  exact ⟨he, (hJ.drewN q).fin, q, rfl⟩
theorem jnext (h : Jq w0 X0 F0 W rb kd ky s tk now S nr Sr z) {x : Int} {b : Bool} (hx : x = nxI S) (hb : b = !S.isEmpty) : Calls Tryd.prog 15 #[.pointer (some ⟨W, 0, none⟩)] z fun e w' => e = .returned (.tuple #[.int .i64 x, .bool b]) ∧ Hid (Jq w0 X0 F0 W rb kd ky s tk now S nr Sr w') := by
  obtain ⟨F, g⟩ := h
  refine (nexts_any g.wh).mono ?_
  rintro e w' ⟨he, hw⟩
  exact ⟨by rw [he, hx, hb], F, g.below hw⟩
theorem jrnext (h : Jq w0 X0 F0 W rb kd ky s tk nw Sw now S z) {x : Int} {b : Bool} (hx : x = nxI S) (hb : b = !S.isEmpty) : Calls Tryd.prog 40 #[.pointer (some ⟨rb, 0, none⟩)] z fun e w' => e = .returned (.tuple #[.int .i64 x, .bool b]) ∧ Hid (Jq w0 X0 F0 W rb kd ky s tk nw Sw now S w') := by
  obtain ⟨F, g⟩ := h
  obtain ⟨a, n, cc, r⟩ := g.rw
  subst hx hb
  cases S with
  | nil =>
    refine (rnext_nil r).mono ?_
    rintro e w' ⟨he, hw⟩
    exact ⟨he, F, g.below hw⟩
  | cons y l =>
    obtain ⟨k, t⟩ := y
    refine (rnext_cons r).mono ?_
    rintro e w' ⟨he, hw⟩
    exact ⟨he, F, g.below hw⟩
/-- The tick of a key's timer; 0: none. -/
def atI (k : Int) (S : List Tm) : Int := match S.find? (fun x => x.1 == k) with
  | some x => (x.2 : Int)
  | none => 0
theorem at_none {k : Int} {S : List Tm} (h : plI k S = -1) : atI k S = 0 := by
  have : S.find? (fun x => x.1 == k) = none := List.find?_eq_none.2 fun x hx => by have := pl_ne h x hx; simpa using this
  unfold atI; rw [this]
theorem at_some {k : Int} {S : List Tm} {i u : Nat} (hu : Uniq S) (h : S[i]? = some (k, u)) : atI k S = u := by
  have : S.find? (fun x => x.1 == k) = some (k, u) := by
    induction S generalizing i with
    | nil => simp at h
    | cons x l ih =>
      have h1 := List.pairwise_cons.1 hu
      cases i with
      | zero =>
        simp only [List.getElem?_cons_zero, Option.some.injEq] at h
        subst h
        simp
      | succ i =>
        simp only [List.getElem?_cons_succ] at h
        have hx : x.1 ≠ k := h1.1 (k, u) (List.mem_of_getElem? h)
        rw [List.find?_cons_of_neg (by simpa using hx)]
        exact ih h1.2 h
  unfold atI; rw [this]
theorem jat (h : Jq w0 X0 F0 W rb kd ky s tk now S nr Sr z) (hky : KeyI ky) {x : Int} {b : Bool} (hx : x = atI ky S) (hb : b = decide (0 ≤ plI ky S)) : Calls Tryd.prog 41 #[.pointer (some ⟨W, 0, none⟩), .int .i64 ky] z fun e w' => e = .returned (.tuple #[.int .i64 x, .bool b]) ∧ Hid (Jq w0 X0 F0 W rb kd ky s tk now S nr Sr w') ∧ (∀ j, w'.cell? ⟨X0.heap.size, j, none⟩ = (#[.int .i64 kd, .int .i64 ky, .string s, .int .i64 tk] : Array Value)[j]?) ∧ (∀ j, w'.cell? ⟨X0.heap.size + 1, j, none⟩ = (#[.int .i64 ky, .string ⟨#[]⟩] : Array Value)[j]?) := by
  obtain ⟨F, g⟩ := h
  rcases pl_cases ky S with hq | ⟨i, u, hq, hi⟩
  · refine (ats_no g.wh hky hq).mono ?_
    rintro e w' ⟨he, hw⟩
    have hJ := g.below hw
    exact ⟨by rw [he, hx, hb, at_none hq, hq]; rfl, ⟨F, hJ⟩, hJ.o, hJ.k⟩
  · refine (ats_yes g.wh hky (List.mem_of_getElem? hi)).mono ?_
    rintro e w' ⟨he, hw⟩
    have hJ := g.below hw
    exact ⟨by rw [he, hx, hb, at_some g.wh.held.1.uq hi, hq, decide_eq_true (show (0 : Int) ≤ (i : Int) by omega)], ⟨F, hJ⟩, hJ.o, hJ.k⟩
theorem jrat (h : Jq w0 X0 F0 W rb kd ky s tk nw Sw now S z) (hl : S.length ≤ 4096) (hu : Uniq S) {x : Int} {b : Bool} (hx : x = atI ky S) (hb : b = decide (0 ≤ plI ky S)) : Calls Tryd.prog 42 #[.pointer (some ⟨rb, 0, none⟩), .agg #[.int .i64 ky, .string ⟨#[]⟩]] z fun e w' => e = .returned (.tuple #[.int .i64 x, .bool b]) ∧ Hid (Jq w0 X0 F0 W rb kd ky s tk nw Sw now S w') := by
  obtain ⟨F, g⟩ := h
  obtain ⟨a, n, cc, r⟩ := g.rw
  rcases pl_cases ky S with hq | ⟨i, u, hq, hi⟩
  · refine (rat_none r ky (by omega) hq).mono ?_
    rintro e w' ⟨he, hw⟩
    exact ⟨by rw [he, hx, hb, at_none hq, hq]; rfl, F, g.below hw⟩
  · refine (rat_some r ky (by omega) hq hi).mono ?_
    rintro e w' ⟨he, hw⟩
    exact ⟨by rw [he, hx, hb, at_some hu hi, hq, decide_eq_true (show (0 : Int) ≤ (i : Int) by omega)], F, g.below hw⟩
theorem jnow (h : Jq w0 X0 F0 W rb kd ky s tk now S nr Sr z) {x : Int} (hx : x = (now : Int)) {a : Option Addr} {n c : Nat} {N : Int} (hc : ∀ o, z.cell? ⟨rb, o, none⟩ = (#[.bool true, .int .i64 N, .slice a n c] : Array Value)[o]?) : Calls Tryd.prog 43 #[.pointer (some ⟨W, 0, none⟩)] z fun e w' => e = .returned (.int .i64 x) ∧ Hid (Jq w0 X0 F0 W rb kd ky s tk now S nr Sr w') ∧ (∀ o, w'.cell? ⟨rb, o, none⟩ = (#[.bool true, .int .i64 N, .slice a n c] : Array Value)[o]?) := by
  obtain ⟨F, g⟩ := h
  refine (now_any g.wh).mono ?_
  rintro e w' ⟨he, rfl⟩
  exact ⟨by rw [he, hx], ⟨F, g⟩, hc⟩
theorem jlen (h : Jq w0 X0 F0 W rb kd ky s tk now S nr Sr z) {x : Int} (hx : x = (S.length : Int)) {a : Option Addr} {n c : Nat} {N : Int} (hc : ∀ o, z.cell? ⟨rb, o, none⟩ = (#[.bool true, .int .i64 N, .slice a n c] : Array Value)[o]?) : Calls Tryd.prog 44 #[.pointer (some ⟨W, 0, none⟩)] z fun e w' => e = .returned (.int .i64 x) ∧ Hid (Jq w0 X0 F0 W rb kd ky s tk now S nr Sr w') ∧ (∀ o, w'.cell? ⟨rb, o, none⟩ = (#[.bool true, .int .i64 N, .slice a n c] : Array Value)[o]?) := by
  obtain ⟨F, g⟩ := h
  refine (len_any g.wh).mono ?_
  rintro e w' ⟨he, rfl⟩
  exact ⟨by rw [he, hx], ⟨F, g⟩, hc⟩
theorem jall (h : Jq w0 X0 F0 W rb kd ky s tk now S now S z) {a : Option Addr} {n c : Nat} (hr : RWl z rb now S a n c) : Calls Tryd.prog 21 #[.pointer (some ⟨W, 0, none⟩)] z fun e w' => ∃ a1 n1 c1, e = .returned (.slice a1 n1 c1) ∧ Hid (NmS w0 X0 F0 W rb kd ky s tk now S S (.slice a1 n1 c1) (.slice a n c) w' ∧ Below z.heap.size z w') := by
  obtain ⟨F, g⟩ := h
  refine (alls_ok g.wh).mono ?_
  rintro e w' ⟨a1, n1, c1, he, h1, hb⟩
  exact ⟨a1, n1, c1, he, ⟨⟨F, g.below hb⟩, ⟨_, h1⟩, ⟨_, (hr.below hb).row⟩, g.wh.held.2⟩, hb⟩
end
end Go.Proofs.YtdglnobapnohmaaDoor
