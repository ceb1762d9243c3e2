import Derived.Test.YtoijhecphgdfnaaGreatDoorOrAl
import Derived.Test.YtoijhecphgdfnaaGreatDoorOxDo3
import Derived.Test.YtoijhecphgdfnaaGreatDoorHsAct
/-
  The law's all: walked.
-/
namespace Go.Proofs.YtoijhecphgdfnaaGreatDoor
open Go.RowKit

section
variable {w w' : World} {K b kb r B hb n : Nat} {v L : Value} {f : Nat → Value} {sq : Bool} {tr : Int} {ms rs ls : List Msg}
end
end Go.Proofs.YtoijhecphgdfnaaGreatDoor

/-
  Next and Get of both boxes: what they answer, whatever the box.
-/
namespace Go.Proofs.YtoijhecphgdfnaaGreatDoor
open Go.RowKit

theorem start_len (e : Bool) (a p t : Int) (nt : Bool) : (startS e a p t nt).l.length ≤ 3 := by
  unfold startS
  repeat' split
  all_goals simp
theorem due_len (e : Bool) (a p st lf : Int) : (dueS e a p st lf).l.length ≤ 3 := by
  unfold dueS
  repeat' split
  all_goals simp
theorem heard_len (e : Bool) (a p st lf : Int) (s : ByteArray) (b : Bool) : (heardS e a p st lf s b).l.length ≤ 3 := by
  unfold heardS
  repeat' split
  all_goals simp
theorem deeds_len (c : ByteArray) (l : ActL) : (deedsS c l).length = l.length := by simp [deedsS]
section
variable {w w' : World} {K b kb r : Nat} {v L : Value} {sq : Bool} {tr : Int} {ms rs : List Msg}
/-- Next, both. -/
theorem next_both (h : Wis ms rs) (hl : ∀ m ∈ ms, m.tn ≤ 8192) : ∃ y is, y.tn ≤ 8192 ∧ (∀ z, Bx z b kb v sq tr ms → Calls Tryz.prog 18 #[.pointer (some ⟨b, 0, none⟩)] z (OtQ z y is)) ∧ (∀ z, RB z K r L sq tr rs → Calls Tryz.prog 19 #[.pointer (some ⟨r, 0, none⟩)] z (OtQ z y is)) := by
  cases hn : nxI sq rs with
  | none =>
    have hm : nxI sq ms = none := h.nx.trans hn
    refine ⟨zM, false, by decide, fun z hz => ?_, fun z hz => rNext_none hz hn⟩
    exact (nextC_no hz (nxI_none.1 hm)).mono fun e w' ⟨a, c, h1, h2, h3⟩ => ⟨a, c, h1, h2, h3⟩
  | some i =>
    have hm : nxI sq ms = some i := h.nx.trans hn
    obtain ⟨m, hmi, hms, _⟩ := nxI_some hm
    obtain ⟨y, a, c, hy, rfl⟩ := h.at_ hmi
    refine ⟨y, true, (by have := hl (y.wi a c) (List.mem_of_getElem? hmi); exact this), fun z hz => ?_, fun z hz => rNext_some hz hn hy⟩
    exact (nextC_yes hz hms).mono fun e w' ⟨a2, c2, h1, h2, h3⟩ => ⟨a2, c2, h1, h2, h3⟩
/-- What a Get tells: a Sent, an error. -/
def GtQ (w : World) (m : Msg) (cd : Int) (e : Ending) (w' : World) : Prop := ∃ a c ev, e = .returned (.tuple #[.agg #[.string m.ct, .slice a m.tn c, .bool m.e, .int .i64 m.a, .int .i64 m.p, .int .i64 m.nu, .bool m.nt, .int .i64 m.st, .int .i64 m.lf, .bool m.un], ev]) ∧ Hid (BRow w' w.heap.size (.slice a m.tn c) m.tx ∧ OEv w' w.heap.size ev 0 cd ∧ Below w.heap.size w w')
theorem get_both (h : Wis ms rs) (hl : ∀ m ∈ ms, m.tn ≤ 8192) (s : ByteArray) : ∃ y cd, y.tn ≤ 8192 ∧ (∀ z, Bx z b kb v sq tr ms → Calls Tryz.prog 31 #[.pointer (some ⟨b, 0, none⟩), .string s] z (GtQ z y cd)) ∧ (∀ z, RB z K r L sq tr rs → Calls Tryz.prog 32 #[.pointer (some ⟨r, 0, none⟩), .string s] z (StQ2 z y cd)) := by
  cases hn : fi s rs with
  | none =>
    have hm : fi s ms = none := (h.fi s).trans hn
    refine ⟨zM, 11, by decide, fun z hz => ?_, fun z hz => rGet_none hz s hn⟩
    exact (get_no hz s hm).mono fun e w' ⟨z', h1, h2, h3, h4⟩ => ⟨none, 0, _, h1, ERow.nil _ _ _ _ _, Or.inr ⟨by decide, z', rfl, h2, h3⟩, h4⟩
  | some i =>
    have hm : fi s ms = some i := (h.fi s).trans hn
    obtain ⟨m, hmi, _⟩ := fi_some hm
    obtain ⟨y, a, c, hy, rfl⟩ := h.at_ hmi
    refine ⟨y, 0, (by have := hl (y.wi a c) (List.mem_of_getElem? hmi); exact this), fun z hz => ?_, fun z hz => rGet_some hz s hn hy⟩
    exact (get_yes hz s hm hmi).mono fun e w' ⟨a2, c2, h1, h2, h3⟩ => ⟨a2, c2, _, h1, h2, Or.inl ⟨rfl, rfl⟩, h3⟩
end
end Go.Proofs.YtoijhecphgdfnaaGreatDoor

/-
  The boxes and Held, strongly, in one state.
-/
namespace Go.Proofs.YtoijhecphgdfnaaGreatDoor
open Go.RowKit

structure JS (w : World) (K b kb r B hb n : Nat) (v L : Value) (σ : Hs) (sq : Bool) (tr : Int) (ms rs : List Msg) : Prop where
  pr : Pr w K b kb r v L sq tr ms rs
  hs : HS w B hb n σ
  ap : ∀ q, Ft b kb r v L ms rs q → ¬ HsFt σ q
/-- What a call of the law's leaves of boxes and Held. -/
def PlJ (w : World) (K b kb r B hb n : Nat) (v L : Value) (σ : Hs) (sq : Bool) (tr : Int) (ms rs : List Msg) (w' : World) : Prop :=
  ∃ v' L' ms' rs' σ', JS w' K b kb r B hb n v' L' σ' sq tr ms' rs' ∧ (∀ q, Ft b kb r v' L' ms' rs' q → Ft b kb r v L ms rs q ∨ w.heap.size ≤ q) ∧ (∀ q, HsFt σ' q → HsFt σ q ∨ w.heap.size ≤ q) ∧ Off (fun q => Ft b kb r v L ms rs q ∨ HsFt σ q) w w'
section
variable {w w1 w3 w4 w' z : World} {K b kb r B hb n m : Nat} {v L : Value} {σ : Hs} {sq : Bool} {tr : Int} {ms rs : List Msg} {T : Nat → Prop}
theorem JS.below (h : JS w K b kb r B hb n v L σ sq tr ms rs) (h9 : Below w.heap.size w w') : JS w' K b kb r B hb n v L σ sq tr ms rs := ⟨h.pr.below h9, h.hs.below h9, h.ap⟩
theorem JS.more (h : JS w K b kb r B hb n v L σ sq tr ms rs) (hm : n ≤ m) : JS w K b kb r B hb m v L σ sq tr ms rs := ⟨h.pr, h.hs.more hm, h.ap⟩
theorem PlJ.more (h : PlJ w K b kb r B hb n v L σ sq tr ms rs w') (hm : n ≤ m) : PlJ w K b kb r B hb m v L σ sq tr ms rs w' := by
  obtain ⟨v', L', ms', rs', σ', p1, p2⟩ := h
  exact ⟨v', L', ms', rs', σ', p1.more hm, p2⟩
theorem PlJ.back (h1 : Below w.heap.size w w1) (h : PlJ w1 K b kb r B hb m v L σ sq tr ms rs w') : PlJ w K b kb r B hb m v L σ sq tr ms rs w' := by
  obtain ⟨v', L', ms', rs', σ', p1, p3, p4, p5⟩ := h
  exact ⟨v', L', ms', rs', σ', p1, fun q hq => (p3 q hq).imp id fun g => Nat.le_trans h1.size g, fun q hq => (p4 q hq).imp id fun g => Nat.le_trans h1.size g, (Off.of_below h1).trans p5⟩
/-- A list of deeds is none of the boxes' blocks. -/
theorem drow_nft (h : Pb w K b kb r v L sq tr ms rs) {C : Nat} {u : Value} {ds : List Deed} (hd : DRow w C u ds) {q : Nat} (hq : u.ownBlock = some q) : ¬ Ft b kb r v L ms rs q := fun h1 => by
  have key : ∃ cs t, w.heap[q]? = some (.cells cs t (0, 0)) ∧ t ≠ 105 := by
    rcases h1 with e | e | e | e | e | ⟨m, hm, e⟩ | ⟨m, hm, e⟩
    · subst e; exact ⟨_, _, h.bx.1, by decide⟩
    · subst e; exact ⟨_, _, h.bx.2.1.1, by decide⟩
    · subst e; exact ⟨_, _, h.rb.blk, by decide⟩
    · obtain ⟨cs, hc⟩ := msrow_type h.bx.2.1.2.1 e
      exact ⟨_, _, hc, by decide⟩
    · obtain ⟨cs, hc⟩ := msrow_type h.rb.row e
      exact ⟨_, _, hc, by decide⟩
    · obtain ⟨cs, hc⟩ := brow_type (h.bx.2.2 m hm).1 e
      exact ⟨_, _, hc, by decide⟩
    · obtain ⟨cs, hc⟩ := brow_type (h.rb.own m hm).1 e
      exact ⟨_, _, hc, by decide⟩
  obtain ⟨cs, t, hc, ht⟩ := key
  obtain ⟨cs', hc'⟩ := own_type hd hq
  rw [hc] at hc'
  simp only [Option.some.injEq, Obj.cells.injEq] at hc'
  exact ht hc'.2.1
/-- The boxes have moved, then Held has been told of T. -/
theorem PlJ.of (h : JS w K b kb r B hb m v L σ sq tr ms rs) (hp : PlR w K b kb r v L sq tr ms rs (fun _ => False) w1) (hq : HSQ w1 B hb n σ T w') (hT : ∀ q, T q → w.heap.size ≤ q ∧ ∀ v' L' ms' rs', Pb w1 K b kb r v' L' sq tr ms' rs' → ¬ Ft b kb r v' L' ms' rs' q) : PlJ w K b kb r B hb n v L σ sq tr ms rs w' := by
  obtain ⟨v', L', ms', rs', p1, p2, p3⟩ := hp
  obtain ⟨σ', q1, q2, q3, _⟩ := hq
  have hap : ∀ q, Ft b kb r v' L' ms' rs' q → ¬ HsFt σ q := fun q hf hk => by
    rcases p2 q hf with g | g
    · exact h.ap q g hk
    · have := (h.hs.lt hk).2; omega
  refine ⟨v', L', ms', rs', σ', ⟨⟨p1.pb.off q3 fun q hf hk => hap q hf hk.ft, p1.wis, p1.ok⟩, q1, fun q hf hk => ?_⟩, p2, fun q hk => ?_, (p3.mono fun q hk => ?_).trans (q3.mono fun q hk => Or.inr hk.ft)⟩
  · rcases q2 q hk with g | g | g
    · exact hap q hf g
    · exact (hT q g).2 _ _ _ _ p1.pb hf
    · have := (p1.pb.lt hf).2; omega
  · rcases q2 q hk with g | g | g
    · exact Or.inl g
    · exact Or.inr (hT q g).1
    · exact Or.inr (Nat.le_trans p3.size g)
  · rcases hk with g | g
    · exact Or.inl g
    · exact g.elim
theorem PlR.toJ (h : JS w K b kb r B hb n v L σ sq tr ms rs) (hp : PlR w K b kb r v L sq tr ms rs (fun _ => False) w') : PlJ w K b kb r B hb n v L σ sq tr ms rs w' := by
  have hw1 : HS w' B hb n σ := by
    obtain ⟨_, _, _, _, _, _, o⟩ := hp
    exact h.hs.off o fun k hk hf => by
      rcases hf with g | g
      · exact h.ap k g hk
      · exact g
  exact PlJ.of (T := fun _ => False) h hp ⟨σ, hw1, fun g hg => Or.inl hg, Off.refl _ _, fun g hg => Or.inl hg⟩ fun q e => e.elim
/-- Looked at alone; then Held has been told of T. -/
theorem PlJ.looked (h : JS w K b kb r B hb n v L σ sq tr ms rs) (h3 : Below w.heap.size w w3) (hq : HSQ w3 B hb m σ T w4) (hT : ∀ q, T q → w.heap.size ≤ q) (hz : Below w4.heap.size w4 z) : PlJ w K b kb r B hb m v L σ sq tr ms rs z := by
  have p3 := h.pr.pb.below h3
  obtain ⟨σ', q1, q2, q3, _⟩ := hq
  refine ⟨v, L, ms, rs, σ', ⟨⟨(p3.off q3 fun q hf hk => h.ap q hf hk.ft).below hz, h.pr.wis, h.pr.ok⟩, q1.below hz, fun q hf hk => ?_⟩, fun q h1 => Or.inl h1, fun q h1 => ?_, ((Off.of_below h3).trans (q3.trans (Off.of_below hz))).mono fun q h1 => Or.inr h1.ft⟩
  · have hl := (h.pr.pb.lt hf).2
    rcases q2 q hk with g | g | g
    · exact h.ap q hf g
    · have := hT q g; omega
    · have := h3.size; omega
  · rcases q2 q h1 with g | g | g
    · exact Or.inl g
    · exact Or.inr (hT q g)
    · exact Or.inr (Nat.le_trans h3.size g)
theorem goA_len2 (sq : Bool) (tr : Int) (ms : List Msg) : (goA sq tr ms).ds.length ≤ 100000 := by
  unfold goA
  split
  · simp
  split
  · simp
  · split
    · simp
    · show (deedsS _ _).length ≤ _
      rw [deeds_len]
      exact Nat.le_trans (start_len _ _ _ _ _) (by decide)
theorem dueA_len2 (ms : List Msg) (s : ByteArray) : (dueA ms s).ds.length ≤ 100000 := by
  unfold dueA
  split
  · simp
  split
  · simp
  · split
    · simp
    · show (deedsS _ _).length ≤ _
      rw [deeds_len]
      exact Nat.le_trans (due_len _ _ _ _ _) (by decide)
theorem heardA_len2 (sq : Bool) (ms : List Msg) (s cd : ByteArray) (x : Int) : (heardA sq ms s cd x).ds.length ≤ 100000 := by
  unfold heardA
  split
  · simp
  split
  · simp
  · split
    · simp
    split
    · simp
    split
    · show (deedsS _ _).length ≤ _
      rw [deeds_len]
      simp
    · show (deedsS _ _).length ≤ _
      rw [deeds_len]
      exact Nat.le_trans (heard_len _ _ _ _ _ _ _) (by decide)
end
end Go.Proofs.YtoijhecphgdfnaaGreatDoor

/-
  The law's plays: Go, walked.
-/
namespace Go.Proofs.YtoijhecphgdfnaaGreatDoor
open Go.RowKit

section
variable {w w1 w' : World} {K b kb r B hb n : Nat} {v L : Value} {σ : Hs} {sq : Bool} {tr : Int} {ms rs : List Msg}
set_option maxRecDepth 100000 in
set_option maxHeartbeats 8000000 in
theorem plays_goJ (hJ0 : JS w K b kb r B hb n v L σ sq tr ms rs) (hV : PVc w) (hn : n + 40 ≤ 1000000000) (x : Opv) (hds : (goA sq tr ms).ds.length ≤ 100000) :
    Calls Tryz.prog 7 #[.agg #[.pointer (some ⟨b, 0, none⟩), .pointer (some ⟨r, 0, none⟩)], .agg #[.int .i64 4, .string x.ct, .slice x.tp x.tn x.tc, .bool x.e, .int .i64 x.a, .int .i64 x.p, .string x.cd, .int .i64 x.n], .pointer (some ⟨hb, 0, none⟩)] w fun e w' => e = .returned (.bool true) ∧ Hid (PlJ w K b kb r B hb (n + 1) v L σ sq tr ms rs w') := by
  have h := hJ0.pr
  have hw := hJ0.hs
  have HJ : Hid (JS w K b kb r B hb n v L σ sq tr ms rs) := hJ0
  have bv : Below w.heap.size w ((w.alloc (.cells #[.pointer (some ⟨b, 0, none⟩), .pointer (some ⟨r, 0, none⟩)] 29)).alloc (.cells #[.int .i64 4, .string x.ct, .slice x.tp x.tn x.tc, .bool x.e, .int .i64 x.a, .int .i64 x.p, .string x.cd, .int .i64 x.n] 47)) := ((Below.refl _ _).alloc (Nat.le_refl _) _).alloc (by simp) _
  have bx := (Box.new w #[.pointer (some ⟨b, 0, none⟩), .pointer (some ⟨r, 0, none⟩)] 29).alloc (.cells #[.int .i64 4, .string x.ct, .slice x.tp x.tn x.tc, .bool x.e, .int .i64 x.a, .int .i64 x.p, .string x.cd, .int .i64 x.n] 47)
  have by_ := Box.new (w.alloc (.cells #[.pointer (some ⟨b, 0, none⟩), .pointer (some ⟨r, 0, none⟩)] 29)) #[.int .i64 4, .string x.ct, .slice x.tp x.tn x.tc, .bool x.e, .int .i64 x.a, .int .i64 x.p, .string x.cd, .int .i64 x.n] 47
  rw [World.size_alloc] at by_
  obtain ⟨V, hVV⟩ : ∃ V, ((w.alloc (.cells #[.pointer (some ⟨b, 0, none⟩), .pointer (some ⟨r, 0, none⟩)] 29)).alloc (.cells #[.int .i64 4, .string x.ct, .slice x.tp x.tn x.tc, .bool x.e, .int .i64 x.a, .int .i64 x.p, .string x.cd, .int .i64 x.n] 47)) = V := ⟨_, rfl⟩
  rw [hVV] at bv bx by_
  have HH : Hid (Pr w K b kb r v L sq tr ms rs ∧ HS w B hb n σ ∧ n + 40 ≤ 1000000000 ∧ Below w.heap.size w V) := ⟨h, hw, hn, bv⟩
  have hPV := h.below bv
  have hpg := pGo hPV.pb.bx (hV.below bv) h.ok
  obtain ⟨y, hy⟩ : ∃ y, goA sq tr ms = y := ⟨_, rfl⟩
  obtain ⟨z, hz⟩ : ∃ z, goA sq tr rs = z := ⟨_, rfl⟩
  have hsm : y.Same z := by rw [← hy, ← hz]; exact go_same h.wis
  have HY : Hid (y.Same z ∧ TxIn y.ms ms ∧ TxIn z.ms rs ∧ Okk sq tr y.ms ∧ y.ds.length ≤ 100000) := ⟨hsm, by rw [← hy]; exact txin_go, by rw [← hz]; exact txin_go, by rw [← hy]; exact okk_go h.ok, by rw [← hy]; exact hds⟩
  rw [hy] at hpg
  obtain ⟨xb, hxb⟩ : ∃ xb, w.heap.size = xb := ⟨_, rfl⟩
  rw [hxb] at bx by_
  have y0 : V.cell? ⟨xb + 1, 0, none⟩ = some (.int .i64 4) := by_.cell 0
  have z0 : V.cell? ⟨xb, 0, none⟩ = some (.pointer (some ⟨b, 0, none⟩)) := bx.cell 0
  have HX : Hid (V.cell? ⟨xb, 1, none⟩ = some (.pointer (some ⟨r, 0, none⟩)) ∧ xb < V.heap.size ∧ w.heap.size = xb) := ⟨bx.cell 1, bx.lt, hxb⟩
  clear hJ0 h hV hw hn hds bv bx by_ hPV hsm hy
  go_enter Tryz.func7, Tryz.ntmps7
  go_upto_region 21 with (go_at_call 23; refine hpg.mono ?_; rintro _ w2 ⟨a2, c2, ev, rfl, H2⟩)
  clear hpg hVV y0 z0
  have nk : ∀ q, (q = kb ∨ v.ownBlock = some q) → q < w.heap.size := fun q hq => by
    rcases hq with e | e
    · exact (HH.out.1.pb.lt (Or.inr (Or.inl e))).2
    · exact (HH.out.1.pb.lt (Or.inr (Or.inr (Or.inr (Or.inl e))))).2
  have nr : ∀ q, (q = r ∨ L.ownBlock = some q) → q < w.heap.size := fun q hq => by
    rcases hq with e | e
    · exact (HH.out.1.pb.lt (Or.inr (Or.inr (Or.inl e)))).2
    · exact (HH.out.1.pb.lt (Or.inr (Or.inr (Or.inr (Or.inr (Or.inl e)))))).2
  obtain ⟨v1, k1, _, o2⟩ := (HH.out.1.below HH.out.2.2.2).pb.left H2.out.2.2 (txin_ht HY.out.2.1 _)
  have z1 : w2.cell? ⟨xb, 1, none⟩ = some (.pointer (some ⟨r, 0, none⟩)) := (o2.cell (p := ⟨xb, 1, none⟩) HX.out.2.1 fun hq => by have := nk xb hq; have := HX.out.2.2; omega).trans HX.out.1
  have hrg := rGo k1.rb
  rw [hz] at hrg
  have HN : Hid (∀ q, (q = r ∨ L.ownBlock = some q) → q < w.heap.size) := nr
  have HV2 : Hid (V.heap.size ≤ w2.heap.size) := o2.size
  clear hz nk nr k1 o2
  go_upto_region 22 with (go_at_call 24; refine hrg.mono ?_; rintro _ w3 ⟨a3, c3, rfl, H3⟩)
  clear hrg z1
  have hp := Pr.call (P := fun _ => False) HH.out.1 HH.out.2.2.2 H2.out.2.2 (Below.refl _ _) H3.out.2 HY.out.1 HY.out.2.1 HY.out.2.2.1 HY.out.2.2.2.1
  have hw3 : HS w3 B hb n σ := by
    obtain ⟨_, _, _, _, _, _, o⟩ := hp
    exact HH.out.2.1.off o fun k hk hf => by
      rcases hf with g | g
      · exact HJ.out.ap k g hk
      · exact g
  obtain ⟨L3, _, o3, _⟩ := H3.out.2
  have hVs := HH.out.2.2.2.size
  have hd3 : DRow w3 V.heap.size (.slice a2 y.ds.length c2) y.ds := ERow.off H2.out.1 o3 fun q hq hr => by have := HN.out q hr; have := (ERow.lt H2.out.1 hq).1; omega
  have he3 : OEv w3 V.heap.size ev 0 y.cd := H2.out.2.1.off o3 fun q h1 _ h3 => by have := HN.out q h3; omega
  have hde := deeds_s hw3 hd3 (Nat.le_trans HH.out.2.1.h0.hr.hB hVs) HH.out.2.2.1 HY.out.2.2.2.2 fun q hq e => by have := (ERow.lt hd3 hq).1; have := (HH.out.2.1.lt e).2; omega
  have H4 : Hid (HS w3 B hb n σ ∧ DRow w3 V.heap.size (.slice a2 y.ds.length c2) y.ds ∧ OEv w3 V.heap.size ev 0 y.cd ∧ DRow w3 w2.heap.size (.slice a3 z.ds.length c3) z.ds ∧ PlR w K b kb r v L sq tr ms rs (fun _ => False) w3) := ⟨hw3, hd3, he3, H3.out.1, hp⟩
  clear hp hw3 o3 hd3 he3 hVs H2 H3
  go_upto_region 23 with (go_at_call 25; refine hde.mono ?_; rintro _ w4 ⟨rfl, H5⟩)
  have hlt : ∀ q, HsFt σ q → q < w.heap.size := fun q hq => (HH.out.2.1.lt hq).2
  obtain ⟨f5, _, _, o5w, _⟩ := H5.out
  have o5 : Off (HsFt σ) w3 w4 := o5w.mono fun _ e => e.ft
  have hVs := HH.out.2.2.2.size
  have d4 : DRow w4 V.heap.size (.slice a2 y.ds.length c2) y.ds := ERow.off H4.out.2.1 o5 fun q hq e => by have := (ERow.lt H4.out.2.1 hq).1; have := hlt q e; omega
  have d5 : DRow w4 w2.heap.size (.slice a3 z.ds.length c3) y.ds := by
    rw [HY.out.1.ds]
    exact ERow.off H4.out.2.2.2.1 o5 fun q hq e => by have := (ERow.lt H4.out.2.2.2.1 hq).1; have := hlt q e; have := HV2.out; omega
  have e5 : OEv w4 V.heap.size ev 0 z.cd := by
    rw [← HY.out.1.cd]
    exact H4.out.2.2.1.off o5 fun q h1 _ h3 => by have := hlt q h3; omega
  have hsd := sameDeeds_any d4 d5
  have hrf := fun m => refused_any ((e5.below (below_drewN (Below.refl _ _) m)).err)
  have HE : Hid (∀ m, PlJ w K b kb r B hb (n + 1) v L σ sq tr ms rs (w4.drewN m)) := fun m => PlJ.of (T := fun g => (Value.slice a2 y.ds.length c2).ownBlock = some g) HJ.out H4.out.2.2.2.2 (by
    obtain ⟨f6, g1, g2, g3, g4⟩ := H5.out
    exact ⟨f6, g1.below (below_drewN (Below.refl _ _) m), g2, g3.trans (Off.of_below (below_drewN (Below.refl _ _) m)), g4⟩) fun q hq => ⟨by have := (ERow.lt H4.out.2.1 hq).1; omega, fun v' L' ms' rs' hpb => drow_nft hpb H4.out.2.1 hq⟩
  clear hlt o5 o5w hVs d4 d5 e5 hde H4 H5
  go_wp2_with (first | (go_at_call 26; refine hsd.mono ?_; rintro _ w6 ⟨rfl, m6, rfl⟩) | (go_at_call 13; refine (hrf _).mono ?_; rintro _ w9 ⟨rfl, h9⟩; subst w9))
  go_ret
  exact ⟨rfl, HE.out _⟩
end
end Go.Proofs.YtoijhecphgdfnaaGreatDoor

/-
  The law's plays: Due, walked.
-/
namespace Go.Proofs.YtoijhecphgdfnaaGreatDoor
open Go.RowKit

section
variable {w w1 w' : World} {K b kb r B hb n : Nat} {v L : Value} {σ : Hs} {sq : Bool} {tr : Int} {ms rs : List Msg}
set_option maxRecDepth 100000 in
set_option maxHeartbeats 8000000 in
theorem plays_dueJ (hJ0 : JS w K b kb r B hb n v L σ sq tr ms rs) (hV : PVc w) (hn : n + 40 ≤ 1000000000) (x : Opv) (hds : (dueA ms x.ct).ds.length ≤ 100000) :
    Calls Tryz.prog 7 #[.agg #[.pointer (some ⟨b, 0, none⟩), .pointer (some ⟨r, 0, none⟩)], .agg #[.int .i64 6, .string x.ct, .slice x.tp x.tn x.tc, .bool x.e, .int .i64 x.a, .int .i64 x.p, .string x.cd, .int .i64 x.n], .pointer (some ⟨hb, 0, none⟩)] w fun e w' => e = .returned (.bool true) ∧ Hid (PlJ w K b kb r B hb (n + 1) v L σ sq tr ms rs w') := by
  have h := hJ0.pr
  have hw := hJ0.hs
  have HJ : Hid (JS w K b kb r B hb n v L σ sq tr ms rs) := hJ0
  have bv : Below w.heap.size w ((w.alloc (.cells #[.pointer (some ⟨b, 0, none⟩), .pointer (some ⟨r, 0, none⟩)] 29)).alloc (.cells #[.int .i64 6, .string x.ct, .slice x.tp x.tn x.tc, .bool x.e, .int .i64 x.a, .int .i64 x.p, .string x.cd, .int .i64 x.n] 47)) := ((Below.refl _ _).alloc (Nat.le_refl _) _).alloc (by simp) _
  have bx := (Box.new w #[.pointer (some ⟨b, 0, none⟩), .pointer (some ⟨r, 0, none⟩)] 29).alloc (.cells #[.int .i64 6, .string x.ct, .slice x.tp x.tn x.tc, .bool x.e, .int .i64 x.a, .int .i64 x.p, .string x.cd, .int .i64 x.n] 47)
  have by_ := Box.new (w.alloc (.cells #[.pointer (some ⟨b, 0, none⟩), .pointer (some ⟨r, 0, none⟩)] 29)) #[.int .i64 6, .string x.ct, .slice x.tp x.tn x.tc, .bool x.e, .int .i64 x.a, .int .i64 x.p, .string x.cd, .int .i64 x.n] 47
  rw [World.size_alloc] at by_
  obtain ⟨V, hVV⟩ : ∃ V, ((w.alloc (.cells #[.pointer (some ⟨b, 0, none⟩), .pointer (some ⟨r, 0, none⟩)] 29)).alloc (.cells #[.int .i64 6, .string x.ct, .slice x.tp x.tn x.tc, .bool x.e, .int .i64 x.a, .int .i64 x.p, .string x.cd, .int .i64 x.n] 47)) = V := ⟨_, rfl⟩
  rw [hVV] at bv bx by_
  have HH : Hid (Pr w K b kb r v L sq tr ms rs ∧ HS w B hb n σ ∧ n + 40 ≤ 1000000000 ∧ Below w.heap.size w V) := ⟨h, hw, hn, bv⟩
  have hPV := h.below bv
  have hpg := pDue hPV.pb.bx (hV.below bv) h.ok x.ct
  obtain ⟨y, hy⟩ : ∃ y, dueA ms x.ct = y := ⟨_, rfl⟩
  obtain ⟨z, hz⟩ : ∃ z, dueA rs x.ct = z := ⟨_, rfl⟩
  have hsm : y.Same z := by rw [← hy, ← hz]; exact due_same h.wis x.ct
  have HY : Hid (y.Same z ∧ TxIn y.ms ms ∧ TxIn z.ms rs ∧ Okk sq tr y.ms ∧ y.ds.length ≤ 100000) := ⟨hsm, by rw [← hy]; exact txin_due x.ct, by rw [← hz]; exact txin_due x.ct, by rw [← hy]; exact okk_due h.ok x.ct, by rw [← hy]; exact hds⟩
  rw [hy] at hpg
  obtain ⟨xb, hxb⟩ : ∃ xb, w.heap.size = xb := ⟨_, rfl⟩
  rw [hxb] at bx by_
  have y0 : V.cell? ⟨xb + 1, 0, none⟩ = some (.int .i64 6) := by_.cell 0
  have z0 : V.cell? ⟨xb, 0, none⟩ = some (.pointer (some ⟨b, 0, none⟩)) := bx.cell 0
  have y1 : V.cell? ⟨xb + 1, 1, none⟩ = some (.string x.ct) := by_.cell 1
  have HX2 : Hid (xb + 1 < V.heap.size ∧ V.cell? ⟨xb + 1, 1, none⟩ = some (.string x.ct)) := ⟨by_.lt, by_.cell 1⟩
  have HX : Hid (V.cell? ⟨xb, 1, none⟩ = some (.pointer (some ⟨r, 0, none⟩)) ∧ xb < V.heap.size ∧ w.heap.size = xb) := ⟨bx.cell 1, bx.lt, hxb⟩
  clear hJ0 h hV hw hn hds bv bx by_ hPV hsm hy
  go_enter Tryz.func7, Tryz.ntmps7
  go_upto_region 31 with (go_at_call 29; refine hpg.mono ?_; rintro _ w2 ⟨a2, c2, ev, rfl, H2⟩)
  clear hpg hVV y0 z0 y1
  have nk : ∀ q, (q = kb ∨ v.ownBlock = some q) → q < w.heap.size := fun q hq => by
    rcases hq with e | e
    · exact (HH.out.1.pb.lt (Or.inr (Or.inl e))).2
    · exact (HH.out.1.pb.lt (Or.inr (Or.inr (Or.inr (Or.inl e))))).2
  have nr : ∀ q, (q = r ∨ L.ownBlock = some q) → q < w.heap.size := fun q hq => by
    rcases hq with e | e
    · exact (HH.out.1.pb.lt (Or.inr (Or.inr (Or.inl e)))).2
    · exact (HH.out.1.pb.lt (Or.inr (Or.inr (Or.inr (Or.inr (Or.inl e)))))).2
  obtain ⟨v1, k1, _, o2⟩ := (HH.out.1.below HH.out.2.2.2).pb.left H2.out.2.2 (txin_ht HY.out.2.1 _)
  have z1 : w2.cell? ⟨xb, 1, none⟩ = some (.pointer (some ⟨r, 0, none⟩)) := (o2.cell (p := ⟨xb, 1, none⟩) HX.out.2.1 fun hq => by have := nk xb hq; have := HX.out.2.2; omega).trans HX.out.1
  have t1 : w2.cell? ⟨xb + 1, 1, none⟩ = some (.string x.ct) := (o2.cell (p := ⟨xb + 1, 1, none⟩) HX2.out.1 fun hq => by have := nk (xb + 1) hq; have := HX.out.2.2; omega).trans HX2.out.2
  have hrg := rDue k1.rb x.ct
  rw [hz] at hrg
  have HN : Hid (∀ q, (q = r ∨ L.ownBlock = some q) → q < w.heap.size) := nr
  have HV2 : Hid (V.heap.size ≤ w2.heap.size) := o2.size
  clear hz nk nr k1 o2
  go_upto_region 32 with (go_at_call 30; refine hrg.mono ?_; rintro _ w3 ⟨a3, c3, rfl, H3⟩)
  clear hrg z1
  have hp := Pr.call (P := fun _ => False) HH.out.1 HH.out.2.2.2 H2.out.2.2 (Below.refl _ _) H3.out.2 HY.out.1 HY.out.2.1 HY.out.2.2.1 HY.out.2.2.2.1
  have hw3 : HS w3 B hb n σ := by
    obtain ⟨_, _, _, _, _, _, o⟩ := hp
    exact HH.out.2.1.off o fun k hk hf => by
      rcases hf with g | g
      · exact HJ.out.ap k g hk
      · exact g
  obtain ⟨L3, _, o3, _⟩ := H3.out.2
  have hVs := HH.out.2.2.2.size
  have hd3 : DRow w3 V.heap.size (.slice a2 y.ds.length c2) y.ds := ERow.off H2.out.1 o3 fun q hq hr => by have := HN.out q hr; have := (ERow.lt H2.out.1 hq).1; omega
  have he3 : OEv w3 V.heap.size ev 0 y.cd := H2.out.2.1.off o3 fun q h1 _ h3 => by have := HN.out q h3; omega
  have hde := deeds_s hw3 hd3 (Nat.le_trans HH.out.2.1.h0.hr.hB hVs) HH.out.2.2.1 HY.out.2.2.2.2 fun q hq e => by have := (ERow.lt hd3 hq).1; have := (HH.out.2.1.lt e).2; omega
  have H4 : Hid (HS w3 B hb n σ ∧ DRow w3 V.heap.size (.slice a2 y.ds.length c2) y.ds ∧ OEv w3 V.heap.size ev 0 y.cd ∧ DRow w3 w2.heap.size (.slice a3 z.ds.length c3) z.ds ∧ PlR w K b kb r v L sq tr ms rs (fun _ => False) w3) := ⟨hw3, hd3, he3, H3.out.1, hp⟩
  clear hp hw3 o3 hd3 he3 hVs H2 H3
  go_upto_region 33 with (go_at_call 25; refine hde.mono ?_; rintro _ w4 ⟨rfl, H5⟩)
  have hlt : ∀ q, HsFt σ q → q < w.heap.size := fun q hq => (HH.out.2.1.lt hq).2
  obtain ⟨f5, _, _, o5w, _⟩ := H5.out
  have o5 : Off (HsFt σ) w3 w4 := o5w.mono fun _ e => e.ft
  have hVs := HH.out.2.2.2.size
  have d4 : DRow w4 V.heap.size (.slice a2 y.ds.length c2) y.ds := ERow.off H4.out.2.1 o5 fun q hq e => by have := (ERow.lt H4.out.2.1 hq).1; have := hlt q e; omega
  have d5 : DRow w4 w2.heap.size (.slice a3 z.ds.length c3) y.ds := by
    rw [HY.out.1.ds]
    exact ERow.off H4.out.2.2.2.1 o5 fun q hq e => by have := (ERow.lt H4.out.2.2.2.1 hq).1; have := hlt q e; have := HV2.out; omega
  have e5 : OEv w4 V.heap.size ev 0 z.cd := by
    rw [← HY.out.1.cd]
    exact H4.out.2.2.1.off o5 fun q h1 _ h3 => by have := hlt q h3; omega
  have hsd := sameDeeds_any d4 d5
  have hrf := fun m => refused_any ((e5.below (below_drewN (Below.refl _ _) m)).err)
  have HE : Hid (∀ m, PlJ w K b kb r B hb (n + 1) v L σ sq tr ms rs (w4.drewN m)) := fun m => PlJ.of (T := fun g => (Value.slice a2 y.ds.length c2).ownBlock = some g) HJ.out H4.out.2.2.2.2 (by
    obtain ⟨f6, g1, g2, g3, g4⟩ := H5.out
    exact ⟨f6, g1.below (below_drewN (Below.refl _ _) m), g2, g3.trans (Off.of_below (below_drewN (Below.refl _ _) m)), g4⟩) fun q hq => ⟨by have := (ERow.lt H4.out.2.1 hq).1; omega, fun v' L' ms' rs' hpb => drow_nft hpb H4.out.2.1 hq⟩
  clear hlt o5 o5w hVs d4 d5 e5 hde H4 H5
  go_wp2_with (first | (go_at_call 26; refine hsd.mono ?_; rintro _ w6 ⟨rfl, m6, rfl⟩) | (go_at_call 13; refine (hrf _).mono ?_; rintro _ w9 ⟨rfl, h9⟩; subst w9))
  go_ret
  exact ⟨rfl, HE.out _⟩
end
end Go.Proofs.YtoijhecphgdfnaaGreatDoor
