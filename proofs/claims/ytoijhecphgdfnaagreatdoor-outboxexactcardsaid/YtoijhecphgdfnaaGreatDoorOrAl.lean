import Derived.Test.YtoijhecphgdfnaaGreatDoorOrPl1
/-
  The law's plays: Give.
-/
namespace Go.Proofs.YtoijhecphgdfnaaGreatDoor
open Go.RowKit

section
variable {w w1 w2 w3 : World} {K b kb r : Nat} {v L : Value} {sq : Bool} {tr : Int} {ms rs : List Msg}
theorem Wis.giv (h : Wis ms rs) (x : Int) : givC sq ms x = givC sq rs x := by unfold givC; rw [h.nx]
theorem Wis.givM (h : Wis ms rs) (x : Int) : Wis (Go.Proofs.YtoijhecphgdfnaaGreatDoor.givM sq ms x) (Go.Proofs.YtoijhecphgdfnaaGreatDoor.givM sq rs x) := by
  unfold Go.Proofs.YtoijhecphgdfnaaGreatDoor.givM
  rw [h.giv]
  split
  · cases hm : ms[0]? with
    | none => rw [h.at_none hm]; exact h
    | some m =>
      obtain ⟨y, a, c, hy, rfl⟩ := h.at_ hm
      rw [hy]
      exact h.set (by exact ⟨a, c, rfl⟩)
  · exact h
theorem okk_giveM (h : Okk sq tr ms) (x : Int) : Okk sq tr (Go.Proofs.YtoijhecphgdfnaaGreatDoor.givM sq ms x) := by
  unfold Go.Proofs.YtoijhecphgdfnaaGreatDoor.givM
  split
  · rename_i hc
    cases hm : ms[0]? with
    | none => exact h
    | some m =>
      unfold givC at hc
      split at hc
      · cases hc
      split at hc
      · cases hc
      · rename_i h1 h2
        rw [not_or] at h1
        exact okk_give h ((Bool.not_eq_false _).mp h1.1) hm ((Bool.not_eq_false _).mp h2)
  · exact h
theorem gv_rbq {B : Nat} {x : Int} {e : Ending} (h : RB w B r L sq tr rs) (hq : GvQ w B r L sq tr rs x e w1) : RBQ w B r L sq tr (Go.Proofs.YtoijhecphgdfnaaGreatDoor.givM sq rs x) w1 := by
  rcases hq.2.out with ⟨h1, rfl⟩ | ⟨h1, m, hm, _, h2⟩
  · unfold Go.Proofs.YtoijhecphgdfnaaGreatDoor.givM
    rw [if_neg h1]
    exact RBQ.refl h
  · unfold Go.Proofs.YtoijhecphgdfnaaGreatDoor.givM
    rw [if_pos h1, hm]
    exact h2
set_option maxRecDepth 100000 in
set_option maxHeartbeats 8000000 in
theorem plays_give (h : Pr w K b kb r v L sq tr ms rs) (x : Opv) (hv : Value) :
    Calls Tryz.prog 7 #[.agg #[.pointer (some ⟨b, 0, none⟩), .pointer (some ⟨r, 0, none⟩)], .agg #[.int .i64 3, .string x.ct, .slice x.tp x.tn x.tc, .bool x.e, .int .i64 x.a, .int .i64 x.p, .string x.cd, .int .i64 x.n], hv] w fun e w' => e = .returned (.bool true) ∧ Hid (PlR w K b kb r v L sq tr ms rs (fun _ => False) w') := by
  have bv : Below w.heap.size w ((w.alloc (.cells #[.pointer (some ⟨b, 0, none⟩), .pointer (some ⟨r, 0, none⟩)] 29)).alloc (.cells #[.int .i64 3, .string x.ct, .slice x.tp x.tn x.tc, .bool x.e, .int .i64 x.a, .int .i64 x.p, .string x.cd, .int .i64 x.n] 47)) := ((Below.refl _ _).alloc (Nat.le_refl _) _).alloc (by simp) _
  have bx := (Box.new w #[.pointer (some ⟨b, 0, none⟩), .pointer (some ⟨r, 0, none⟩)] 29).alloc (.cells #[.int .i64 3, .string x.ct, .slice x.tp x.tn x.tc, .bool x.e, .int .i64 x.a, .int .i64 x.p, .string x.cd, .int .i64 x.n] 47)
  have by_ := Box.new (w.alloc (.cells #[.pointer (some ⟨b, 0, none⟩), .pointer (some ⟨r, 0, none⟩)] 29)) #[.int .i64 3, .string x.ct, .slice x.tp x.tn x.tc, .bool x.e, .int .i64 x.a, .int .i64 x.p, .string x.cd, .int .i64 x.n] 47
  rw [World.size_alloc] at by_
  obtain ⟨V, hVV⟩ : ∃ V, ((w.alloc (.cells #[.pointer (some ⟨b, 0, none⟩), .pointer (some ⟨r, 0, none⟩)] 29)).alloc (.cells #[.int .i64 3, .string x.ct, .slice x.tp x.tn x.tc, .bool x.e, .int .i64 x.a, .int .i64 x.p, .string x.cd, .int .i64 x.n] 47)) = V := ⟨_, rfl⟩
  rw [hVV] at bv bx by_
  have HG : Hid (∀ z, Below V.heap.size V z → Calls Tryz.prog 21 #[.pointer (some ⟨b, 0, none⟩), .int .i64 x.n] z fun e w2 => ∃ ev, e = .returned ev ∧ Hid (Off (fun q => q < w.heap.size) V w2) ∧ Calls Tryz.prog 22 #[.pointer (some ⟨r, 0, none⟩), .int .i64 x.n] w2 fun e3 w3 => e3 = .returned (.int .i64 (givC sq rs x.n)) ∧ Hid (Off (fun q => q < w.heap.size) V w3) ∧ Hid (PlR w K b kb r v L sq tr ms rs (fun _ => False) w3) ∧ Calls Tryz.prog 13 #[ev, .int .i64 0, .int .i64 (givC sq rs x.n)] w3 fun e w' => e = .returned (.bool true) ∧ w' = w3) := fun z hz => by
    have bz := below_then bv hz
    have hPz := h.below bz
    refine (pGive hPz.pb.bx h.ok x.n).mono fun e w2 ⟨ev, e1, h2⟩ => ⟨ev, e1, ?_, ?_⟩
    · obtain ⟨v', _, o, _⟩ := h2.out.2
      exact (Off.of_below hz).trans (o.mono fun q hq => by
        rcases hq with e | e
        · exact (h.pb.lt (Or.inr (Or.inl e))).2
        · exact (h.pb.lt (Or.inr (Or.inr (Or.inr (Or.inl e))))).2)
    · obtain ⟨v', k1, _, k3⟩ := hPz.pb.left h2.out.2 (txin_ht (txin_give x.n) _)
      have o2 : Off (fun q => q < w.heap.size) V w2 := (Off.of_below hz).trans (k3.mono fun q hq => by
        rcases hq with e | e
        · exact (h.pb.lt (Or.inr (Or.inl e))).2
        · exact (h.pb.lt (Or.inr (Or.inr (Or.inr (Or.inl e))))).2)
      refine (rGive_any k1.rb x.n).mono fun e3 w3 h3 => ?_
      have hr := gv_rbq k1.rb h3
      have hrq := hr
      obtain ⟨L', _, o3, _⟩ := hrq
      have lr : ∀ q, (q = r ∨ L.ownBlock = some q) → q < w.heap.size := fun q hq => by
        rcases hq with e | e
        · exact (h.pb.lt (Or.inr (Or.inr (Or.inl e)))).2
        · exact (h.pb.lt (Or.inr (Or.inr (Or.inr (Or.inr (Or.inl e)))))).2
      refine ⟨h3.1, o2.trans (o3.mono lr), ?_, ?_⟩
      · exact h.both bz h2.out.2 (txin_ht (txin_give x.n) _) (Below.refl _ _) hr (txin_ht (txin_give x.n) _) (h.wis.givM x.n) (okk_giveM h.ok x.n)
      · rw [← h.wis.giv x.n]
        exact refused_any (h2.out.1.off o3 fun q h1 _ h4 => by have := lr q h4; have := bz.size; omega).err
  obtain ⟨xb, hxb⟩ : ∃ xb, w.heap.size = xb := ⟨_, rfl⟩
  rw [hxb] at bx by_
  have y0 : V.cell? ⟨xb + 1, 0, none⟩ = some (.int .i64 3) := by_.cell 0
  have y7 : V.cell? ⟨xb + 1, 7, none⟩ = some (.int .i64 x.n) := by_.cell 7
  have z0 : V.cell? ⟨xb, 0, none⟩ = some (.pointer (some ⟨b, 0, none⟩)) := bx.cell 0
  have z1 : V.cell? ⟨xb, 1, none⟩ = some (.pointer (some ⟨r, 0, none⟩)) := bx.cell 1
  have lx := bx.lt
  have ly := by_.lt
  have gc : ∀ {z : World}, Off (fun q => q < w.heap.size) V z → z.cell? ⟨xb, 0, none⟩ = some (.pointer (some ⟨b, 0, none⟩)) ∧ z.cell? ⟨xb, 1, none⟩ = some (.pointer (some ⟨r, 0, none⟩)) ∧ z.cell? ⟨xb + 1, 7, none⟩ = some (.int .i64 x.n) := fun {z} hz => ⟨(hz.cell (p := ⟨xb, 0, none⟩) lx (by show ¬ xb < _; omega)).trans z0, (hz.cell (p := ⟨xb, 1, none⟩) lx (by show ¬ xb < _; omega)).trans z1, (hz.cell (p := ⟨xb + 1, 7, none⟩) ly (by show ¬ xb + 1 < _; omega)).trans y7⟩
  clear h bv bx by_
  go_enter Tryz.func7, Tryz.ntmps7
  go_upto_region 18 with fail
  clear hVV
  go_region_held3 (fun z => z.cell? ⟨xb, 0, none⟩ = some (.pointer (some ⟨b, 0, none⟩)) ∧ z.cell? ⟨xb, 1, none⟩ = some (.pointer (some ⟨r, 0, none⟩)) ∧ z.cell? ⟨xb + 1, 7, none⟩ = some (.int .i64 x.n)) ((refine gc ?_; (repeat' (first | (with_reducible exact Off.refl _ _) | (with_reducible exact Hid.out (by assumption)) | (with_reducible refine Off.drew ?_))))) (first | (go_at_call 21; refine (HG.out _ (Below.drew (Below.refl _ _))).mono ?_; rintro _ w2 ⟨ev, rfl, HO2, hrg⟩) | (go_at_call 22; refine hrg.mono ?_; rintro _ w3 ⟨rfl, HO3, HP3, hrf⟩) | (go_at_call 13; refine hrf.mono ?_; rintro _ w4 ⟨rfl, h4⟩; subst w4))
  all_goals
    go_wp2_with fail
    go_ret
    exact ⟨rfl, HP3⟩
end
end Go.Proofs.YtoijhecphgdfnaaGreatDoor

/-
  The program's Get of an id that it does not hold; the law's plays of a kind that is none.
-/
namespace Go.Proofs.YtoijhecphgdfnaaGreatDoor
open Go.RowKit

section
variable {w w' : World} {b kb : Nat} {v : Value} {sq : Bool} {tr : Int} {ms : List Msg}
set_option maxRecDepth 100000 in
set_option maxHeartbeats 2000000 in
theorem get_no (h : Bx w b kb v sq tr ms) (s : ByteArray) (hf : fi s ms = none) : Calls Tryz.prog 31 #[.pointer (some ⟨b, 0, none⟩), .string s] w (ZFl w 11) := by
  have bv : Below w.heap.size w (w.alloc (.cells #[.string ⟨#[]⟩, .slice none 0 0, .bool false, .int .i64 0, .int .i64 0, .int .i64 0, .bool false, .int .i64 0, .int .i64 0, .bool false] 91)) := (Below.refl _ _).alloc (Nat.le_refl _) _
  have bx := Box.new w #[.string ⟨#[]⟩, .slice none 0 0, .bool false, .int .i64 0, .int .i64 0, .int .i64 0, .bool false, .int .i64 0, .int .i64 0, .bool false] 91
  have hkf := bfind_no (h.below bv) s hf
  clear h hf
  go_enter Tryz.func31, Tryz.ntmps31
  go_wp2_with fail
  obtain ⟨V, hW⟩ : ∃ V, w.alloc (.cells #[.string ⟨#[]⟩, .slice none 0 0, .bool false, .int .i64 0, .int .i64 0, .int .i64 0, .bool false, .int .i64 0, .int .i64 0, .bool false] 91) = V := ⟨_, rfl⟩
  rw [hW] at bv bx hkf ⊢
  clear hW
  have HB0 : Hid (Below w.heap.size w V ∧ Box V w.heap.size #[.string ⟨#[]⟩, .slice none 0 0, .bool false, .int .i64 0, .int .i64 0, .int .i64 0, .bool false, .int .i64 0, .int .i64 0, .bool false]) := ⟨bv, bx⟩
  clear bv bx
  refine hkf.mono ?_
  rintro _ w1 ⟨z, rfl, hz, hfl, hb1⟩
  have x1 := HB0.out.2.below hb1
  have lx := x1.lt
  have cx := x1.cell
  have fx := x1.free
  have hzl : z < w1.heap.size := cell_lt hfl.1
  have hzV : w.heap.size < z := Nat.lt_of_lt_of_le HB0.out.2.lt hz
  have HE : Hid (OFault w1 z 0 11 ∧ Below w.heap.size w w1) := ⟨hfl, below_then HB0.out.1 hb1⟩
  clear hkf hb1 x1 hfl hz
  go_wp2_with fail
  refine bodyPost_ret ?_ rfl ⟨z, rfl, by omega, ?_, ?_⟩
  · simp [results, Tryz.results31, go_sem, cx, lx]
  · refine OFault.keep HE.out.1 fun o => ?_
    rw [World.cell?_alloc_lt _ _ ⟨z, o, none⟩ (by simp; omega)]
    have hne : ∀ q : Nat, (⟨w.heap.size, q, none⟩ : Addr) ≠ ⟨z, o, none⟩ := fun q e => by injection e; omega
    iterate 10 (rw [World.cell?_setCell_other _ _ _ _ (hne _)])
  · refine Below.alloc ?_ (by simp; omega) _
    iterate 10 (refine Below.setCell ?_ (by exact Nat.le_refl _) _)
    exact HE.out.2
end
section
variable {w : World} {K b kb r : Nat} {v L : Value} {sq : Bool} {tr : Int} {ms rs : List Msg}
set_option maxRecDepth 100000 in
set_option maxHeartbeats 4000000 in
theorem plays_other (h : Pr w K b kb r v L sq tr ms rs) (x : Opv) (h1 : x.kd ≠ 1) (h2 : x.kd ≠ 2) (h3 : x.kd ≠ 3) (h4 : x.kd ≠ 4) (h5 : x.kd ≠ 5) (h6 : x.kd ≠ 6) (h7 : x.kd ≠ 7) (h8 : x.kd ≠ 8) (hv : Value) :
    Calls Tryz.prog 7 #[.agg #[.pointer (some ⟨b, 0, none⟩), .pointer (some ⟨r, 0, none⟩)], .agg #[.int .i64 x.kd, .string x.ct, .slice x.tp x.tn x.tc, .bool x.e, .int .i64 x.a, .int .i64 x.p, .string x.cd, .int .i64 x.n], hv] w fun e w' => e = .returned (.bool true) ∧ Hid (PlR w K b kb r v L sq tr ms rs (fun _ => False) w') := by
  have bv : Below w.heap.size w ((w.alloc (.cells #[.pointer (some ⟨b, 0, none⟩), .pointer (some ⟨r, 0, none⟩)] 29)).alloc (.cells #[.int .i64 x.kd, .string x.ct, .slice x.tp x.tn x.tc, .bool x.e, .int .i64 x.a, .int .i64 x.p, .string x.cd, .int .i64 x.n] 47)) := ((Below.refl _ _).alloc (Nat.le_refl _) _).alloc (by simp) _
  have HP : Hid (PlR w K b kb r v L sq tr ms rs (fun _ => False) ((w.alloc (.cells #[.pointer (some ⟨b, 0, none⟩), .pointer (some ⟨r, 0, none⟩)] 29)).alloc (.cells #[.int .i64 x.kd, .string x.ct, .slice x.tp x.tn x.tc, .bool x.e, .int .i64 x.a, .int .i64 x.p, .string x.cd, .int .i64 x.n] 47))) := (PlR.refl h).below bv
  have g1 : (x.kd == 1) = false := by simpa using h1
  have g2 : (x.kd == 2) = false := by simpa using h2
  have g3 : (x.kd == 3) = false := by simpa using h3
  have g4 : (x.kd == 4) = false := by simpa using h4
  have g5 : (x.kd == 5) = false := by simpa using h5
  have g6 : (x.kd == 6) = false := by simpa using h6
  have g7 : (x.kd == 7) = false := by simpa using h7
  have g8 : (x.kd == 8) = false := by simpa using h8
  clear h bv h1 h2 h3 h4 h5 h6 h7 h8
  go_enter Tryz.func7, Tryz.ntmps7
  go_wp2_with fail
  go_ret
  exact ⟨rfl, HP⟩
end
end Go.Proofs.YtoijhecphgdfnaaGreatDoor

/-
  Held, loosely: six rows of lists that grow, and are not looked at.
-/
namespace Go.Proofs.YtoijhecphgdfnaaGreatDoor
open Go.RowKit

/-- A list as a value. -/
abbrev Sl := Option Addr × Nat × Nat
def encSl (s : Sl) : List Value := [.slice s.1 s.2.1 s.2.2]
theorem encSl_len (s : Sl) : (encSl s).length = 1 := rfl
theorem encSl_one (s : Sl) : ∀ u ∈ encSl s, u.oneCell' = true := fun u hu => by
  simp only [encSl, List.mem_singleton] at hu
  subst hu
  rfl
/-- The rows' types. -/
def hty (q : Nat) : TypeId := if q < 2 then 77 else if q < 4 then 97 else 43
def htl (q : Nat) : TypeId := if q < 2 then 33 else if q < 4 then 34 else 35
theorem celH (q : Nat) : Cel Tryz.prog (hty q) 1 24 := by
  unfold hty
  split
  · exact cel_of (by kernel_rfl)
  split
  · exact cel_of (by kernel_rfl)
  · exact cel_of (by kernel_rfl)
theorem undH (q : Nat) : Tryz.prog.underlying (htl q) = some (.slice (hty q)) := by
  unfold hty htl
  split
  · kernel_rfl
  split
  · kernel_rfl
  · kernel_rfl
/-- Held at hb: its cells f, at most n lists in a row. -/
structure HW (w : World) (B hb n : Nat) (f : Nat → Value) : Prop where
  blk : w.heap[hb]? = some (.cells #[f 0, f 1, f 2, f 3, f 4, f 5, f 6, f 7, f 8, f 9] 41 (0, 0))
  row : ∀ q, q < 6 → ∃ xs : List Sl, xs.length ≤ n ∧ ERow w B (hty q) 1 encSl (f q) xs
  dis : ∀ i j g, i < 6 → j < 6 → i ≠ j → (f i).ownBlock = some g → (f j).ownBlock ≠ some g
  lB : B ≤ hb
/-- Held's blocks. -/
def HFt (hb : Nat) (f : Nat → Value) (k : Nat) : Prop := k = hb ∨ ∃ q, q < 6 ∧ (f q).ownBlock = some k
section
variable {w w' : World} {B hb n : Nat} {f : Nat → Value}
theorem row_type {e : TypeId} {v : Value} {xs : List Sl} (h : ERow w B e 1 encSl v xs) {g : Nat} (hg : v.ownBlock = some g) : ∃ cs, w.heap[g]? = some (.cells cs e (0, 0)) := by
  rcases h.2 with ⟨e1, _⟩ | ⟨g', cap, cur, e1, _, hb, _⟩
  · rw [e1] at hg; cases hg
  · rw [e1] at hg
    simp only [Value.ownBlock, Option.some.injEq] at hg
    subst hg
    exact ⟨_, hb⟩
theorem hty_ne (q : Nat) : hty q ≠ 41 := by
  unfold hty
  split
  · decide
  split <;> decide
theorem HW.lt (h : HW w B hb n f) : hb < w.heap.size := blk_lt h.blk
theorem HW.nb (h : HW w B hb n f) {q : Nat} (hq : q < 6) : (f q).ownBlock ≠ some hb := fun e => by
  obtain ⟨xs, _, hr⟩ := h.row q hq
  obtain ⟨cs, hc⟩ := row_type hr e
  rw [h.blk] at hc
  simp only [Option.some.injEq, Obj.cells.injEq] at hc
  exact hty_ne q hc.2.1.symm
theorem HW.off {P : Nat → Prop} (h : HW w B hb n f) (o : Off P w w') (hP : ∀ k, HFt hb f k → ¬ P k) : HW w' B hb n f :=
  ⟨(o.block hb h.lt (hP hb (Or.inl rfl))).trans h.blk, fun q hq => by
    obtain ⟨xs, h1, h2⟩ := h.row q hq
    exact ⟨xs, h1, ERow.off h2 o fun k hk => hP k (Or.inr ⟨q, hq, hk⟩)⟩, h.dis, h.lB⟩
theorem HW.below (h : HW w B hb n f) (hb2 : Below w.heap.size w w') : HW w' B hb n f :=
  ⟨(hb2.block hb h.lt).trans h.blk, fun q hq => by
    obtain ⟨xs, h1, h2⟩ := h.row q hq
    exact ⟨xs, h1, ERow.below h2 hb2⟩, h.dis, h.lB⟩
theorem HW.more {m : Nat} (h : HW w B hb n f) (hm : n ≤ m) : HW w B hb m f := ⟨h.blk, fun q hq => by
  obtain ⟨xs, h1, h2⟩ := h.row q hq
  exact ⟨xs, by omega, h2⟩, h.dis, h.lB⟩
/-- A list more in a row. -/
theorem HW.push (h : HW w B hb n f) {q : Nat} (hq : q < 6) (s : Sl) (hn : n + 1 ≤ 1000000000) :
    ∃ a' n' c' w2, (Builtin.append_ #[htl q, htl q] (htl q) #[f q, .slice (some ⟨w.heap.size, 0, none⟩) 1 1]).run Tryz.prog (w.alloc (.cells #[.slice s.1 s.2.1 s.2.2] (hty q))) = .ok (.slice a' n' c') w2 ∧ w2.cell? ⟨hb, q, none⟩ = some (f q) ∧ w2.frozen? ⟨hb, q, none⟩ = false ∧ Hid (HW (w2.setCell ⟨hb, q, none⟩ (.slice a' n' c')) B hb (n + 1) (fun k => if k = q then .slice a' n' c' else f k) ∧ Off (fun k => k = hb ∨ (f q).ownBlock = some k) w (w2.setCell ⟨hb, q, none⟩ (.slice a' n' c')) ∧ ∀ k, (Value.slice a' n' c').ownBlock = some k → (f q).ownBlock = some k ∨ w.heap.size ≤ k) := by
  obtain ⟨xs, hx, hr⟩ := h.row q hq
  have hB : B ≤ w.heap.size := Nat.le_trans h.lB (Nat.le_of_lt h.lt)
  obtain ⟨a', c', w2, h1, r2, o2, s2⟩ := run_epush (P := Tryz.prog) (t := htl q) (undH q) (celH q) encSl_len encSl_one hr s #[.slice s.1 s.2.1 s.2.2] rfl (by omega) (by decide) hB
  have b2 : w2.heap[hb]? = some (.cells #[f 0, f 1, f 2, f 3, f 4, f 5, f 6, f 7, f 8, f 9] 41 (0, 0)) := (o2.block hb h.lt (h.nb hq)).trans h.blk
  have fr : ∀ k, (Value.slice a' (xs.length + 1) c').ownBlock = some k → (f q).ownBlock = some k ∨ w.heap.size ≤ k := fun k hk => by
    rcases s2 with e | e
    · exact Or.inl (by rw [← e]; exact hk)
    · rw [hk] at e
      simp only [Option.some.injEq] at e
      right; omega
  have oo : Off (fun k => k = hb) w2 (w2.setCell ⟨hb, q, none⟩ (.slice a' (xs.length + 1) c')) := Off.setCell (P := fun k => k = hb) (Off.refl _ _) (p := ⟨hb, q, none⟩) rfl _
  have hcq : #[f 0, f 1, f 2, f 3, f 4, f 5, f 6, f 7, f 8, f 9][q]? = some (f q) := by
    rcases q with _ | _ | _ | _ | _ | _ | q
    all_goals first | rfl | omega
  have hnb : ∀ k, (Value.slice a' (xs.length + 1) c').ownBlock = some k → k ≠ hb := fun k hk e => by
    obtain ⟨cs, hc⟩ := row_type r2 hk
    rw [e, b2] at hc
    simp only [Option.some.injEq, Obj.cells.injEq] at hc
    exact hty_ne q hc.2.1.symm
  refine ⟨a', _, c', w2, h1, (hcell b2 q).trans hcq, hfroz b2 q, ⟨?_, fun j hj => ?_, fun i j g hi hj hij hg => ?_, h.lB⟩, (o2.mono fun k hk => Or.inr hk).trans (oo.mono fun k hk => Or.inl hk), fr⟩
  · have := set_heap b2 q (.slice a' (xs.length + 1) c')
    refine this.trans ?_
    clear this hcq r2 h1 hr b2 oo fr hnb s2 o2 hx
    rcases q with _ | _ | _ | _ | _ | _ | q
    · simp
    · simp
    · simp
    · simp
    · simp
    · simp
    · omega
  · by_cases e : j = q
    · subst e
      refine ⟨xs ++ [s], by simp; omega, ?_⟩
      rw [if_pos rfl]
      exact ERow.off r2 oo hnb
    · obtain ⟨ys, hy, hr2⟩ := h.row j hj
      refine ⟨ys, by omega, ?_⟩
      rw [if_neg e]
      exact ERow.off (ERow.off hr2 o2 fun k hk hq2 => h.dis j q k hj hq e hk hq2) oo fun k hk e2 => h.nb hj (by rw [← e2]; exact hk)
  · have old : ∀ m k, m < 6 → (f m).ownBlock = some k → k < w.heap.size := fun m k hm hk => by
      obtain ⟨ys, _, hr2⟩ := h.row m hm
      exact (ERow.lt hr2 hk).2
    by_cases e1 : i = q
    · rw [if_pos e1] at hg
      rw [if_neg (fun e2 => hij (e1.trans e2.symm))]
      intro hg2
      rcases fr g hg with e | e
      · exact h.dis q j g hq hj (by omega) e hg2
      · have := old j g hj hg2; omega
    · rw [if_neg e1] at hg
      by_cases e2 : j = q
      · rw [if_pos e2]
        intro hg2
        rcases fr g hg2 with e | e
        · exact h.dis i q g hi hq e1 hg e
        · have := old i g hi hg; omega
      · rw [if_neg e2]
        exact h.dis i j g hi hj hij hg
end
end Go.Proofs.YtoijhecphgdfnaaGreatDoor

/-
  Held.deeds.
-/
namespace Go.Proofs.YtoijhecphgdfnaaGreatDoor
open Go.RowKit

/-- Deeds copied behind an empty list. -/
theorem run_dcopy {w W : World} {B m c : Nat} {a : Option Addr} {ds : List Deed} (h : DRow w B (.slice a m c) ds) (hl : ds.length ≤ 1000000000) (hW : W = (w.alloc (.cells #[] 105)) ∨ W = (w.alloc (.cells #[] 105)).drew) :
    ∃ a' c' W', (Builtin.append_ #[77, 77] 77 #[.slice (some ⟨w.heap.size, 0, none⟩) 0 0, .slice a m c]).run Tryz.prog W = .ok (.slice a' m c') W' ∧ Hid (DRow W' w.heap.size (.slice a' m c') ds ∧ Below w.heap.size w W') := by
  have b1 : Below w.heap.size w W := by
    rcases hW with rfl | rfl
    · exact (Below.refl _ _).alloc (Nat.le_refl _) _
    · exact ((Below.refl _ _).alloc (Nat.le_refl _) _).drew
  have hg : W.heap[w.heap.size]? = some (.cells #[] 105 (0, 0)) := by
    rcases hW with rfl | rfl
    · exact heap_alloc_new _ _
    · exact heap_alloc_new _ _
  have h0 : DRow W w.heap.size (.slice (some ⟨w.heap.size, 0, none⟩) 0 0) [] := ⟨rfl, Or.inr ⟨w.heap.size, 0, #[], rfl, Nat.le_refl _, hg, Nat.le_refl _, Nat.zero_le _, rfl, rfl⟩⟩
  have hm : m = ds.length := ERow.len h
  have hc := ERow.below h b1
  obtain ⟨a', c', W', h1, r1, o1, _⟩ := run_eapp (P := Tryz.prog) (t := 77) (c := c) Tryz.underlying77 celD encD_len encD_one h0 (ys := ds) (n := m) (a := a) hm (fun e => by
    rcases ERow.form h with ⟨_, e2⟩ | ⟨g, cap, e2, _⟩
    · rw [hm, e2]; rfl
    · rw [e] at e2; cases e2) (fun a' ea j u hu => by
    rcases ERow.form hc with ⟨e1, e2⟩ | ⟨g, cap, e1, hgl, hcells, _⟩
    · rw [e2] at hu; simp at hu
    · obtain ⟨e3, _, _⟩ : a = some ⟨g, 0, none⟩ ∧ m = ds.length ∧ c = cap := by simpa using e1
      subst e3
      simp only [Option.some.injEq] at ea
      subst ea
      exact World.ownsRow.cells hc (g := g) rfl j u hu) (by simp; exact hl) (by decide) b1.size
  rw [List.length_nil, Nat.zero_add, ← hm] at h1 r1
  exact ⟨a', c', W', h1, r1, b1.trans (o1.below b1.size fun q hq => by simp [Value.ownBlock] at hq; omega)⟩
section
variable {w : World} {B hb n : Nat} {f : Nat → Value}
/-- What Held is behind a call. -/
def HWQ (w : World) (B hb n : Nat) (f : Nat → Value) (w' : World) : Prop := ∃ f', HW w' B hb n f' ∧ (∀ k, HFt hb f' k → HFt hb f k ∨ w.heap.size ≤ k) ∧ Off (HFt hb f) w w'
theorem HWQ.put {w2 : World} {q : Nat} {u : Value} (hq : q < 6) (hw : HW (w2.setCell ⟨hb, q, none⟩ u) B hb (n + 1) (fun k => if k = q then u else f k)) (o : Off (fun k => k = hb ∨ (f q).ownBlock = some k) w (w2.setCell ⟨hb, q, none⟩ u)) (hf : ∀ k, u.ownBlock = some k → (f q).ownBlock = some k ∨ w.heap.size ≤ k) : HWQ w B hb (n + 1) f (w2.setCell ⟨hb, q, none⟩ u) := by
  refine ⟨_, hw, fun k hk => ?_, o.mono fun k hk => ?_⟩
  · rcases hk with e | ⟨j, hj, e⟩
    · exact Or.inl (Or.inl e)
    · have e : (if j = q then u else f j).ownBlock = some k := e
      by_cases ej : j = q
      · rw [if_pos ej] at e
        rcases hf k e with g | g
        · exact Or.inl (Or.inr ⟨q, hq, g⟩)
        · exact Or.inr g
      · rw [if_neg ej] at e
        exact Or.inl (Or.inr ⟨j, hj, e⟩)
  · rcases hk with e | e
    · exact Or.inl e
    · exact Or.inr ⟨q, hq, e⟩
theorem HWQ.trans {w1 w2 : World} {m : Nat} {f1 : Nat → Value} (h1 : ∀ k, HFt hb f1 k → HFt hb f k ∨ w.heap.size ≤ k) (o : Off (HFt hb f) w w1) (h2 : HWQ w1 B hb m f1 w2) : HWQ w B hb m f w2 := by
  obtain ⟨f2, k1, k2, k3⟩ := h2
  refine ⟨f2, k1, fun k hk => ?_, o.join k3 fun k hl hk => ?_⟩
  · rcases k2 k hk with g | g
    · exact h1 k g
    · exact Or.inr (Nat.le_trans o.size g)
  · rcases h1 k hk with g | g
    · exact g
    · omega
end
end Go.Proofs.YtoijhecphgdfnaaGreatDoor

/-
  The law's plays: Go. Held and the boxes are apart.
-/
namespace Go.Proofs.YtoijhecphgdfnaaGreatDoor
open Go.RowKit

section
variable {w w1 w' : World} {K b kb r B hb n : Nat} {v L : Value} {f : Nat → Value} {sq : Bool} {tr : Int} {ms rs : List Msg}
/-- A block of the boxes is of their types, but for a text's. -/
theorem hft_ne (h : Pb w K b kb r v L sq tr ms rs) (hw : HW w B hb n f) {q : Nat} (h1 : Ft b kb r v L ms rs q) : ¬ HFt hb f q := fun h2 => by
  have key : ∃ cs t, w.heap[q]? = some (.cells cs t (0, 0)) ∧ t ≠ 41 ∧ t ≠ 77 ∧ t ≠ 97 ∧ t ≠ 43 := by
    rcases h1 with e | e | e | e | e | ⟨m, hm, e⟩ | ⟨m, hm, e⟩
    · subst e; exact ⟨_, _, h.bx.1, by decide, by decide, by decide, by decide⟩
    · subst e; exact ⟨_, _, h.bx.2.1.1, by decide, by decide, by decide, by decide⟩
    · subst e; exact ⟨_, _, h.rb.blk, by decide, by decide, by decide, by decide⟩
    · obtain ⟨cs, hc⟩ := msrow_type h.bx.2.1.2.1 e
      exact ⟨_, _, hc, by decide, by decide, by decide, by decide⟩
    · obtain ⟨cs, hc⟩ := msrow_type h.rb.row e
      exact ⟨_, _, hc, by decide, by decide, by decide, by decide⟩
    · obtain ⟨cs, hc⟩ := brow_type (h.bx.2.2 m hm).1 e
      exact ⟨_, _, hc, by decide, by decide, by decide, by decide⟩
    · obtain ⟨cs, hc⟩ := brow_type (h.rb.own m hm).1 e
      exact ⟨_, _, hc, by decide, by decide, by decide, by decide⟩
  obtain ⟨cs, t, hc, t1, t2, t3, t4⟩ := key
  rcases h2 with e | ⟨j, hj, e⟩
  · rw [e, hw.blk] at hc
    simp only [Option.some.injEq, Obj.cells.injEq] at hc
    exact t1 hc.2.1.symm
  · obtain ⟨xs, _, hr⟩ := hw.row j hj
    obtain ⟨cs', hc'⟩ := row_type hr e
    rw [hc] at hc'
    simp only [Option.some.injEq, Obj.cells.injEq] at hc'
    have e2 := hc'.2.1
    unfold hty at e2
    split at e2
    · exact t2 e2
    split at e2
    · exact t3 e2
    · exact t4 e2
/-- What a call of the law's leaves of the boxes and of Held. -/
def PlH (w : World) (K b kb r B hb n : Nat) (v L : Value) (f : Nat → Value) (sq : Bool) (tr : Int) (ms rs : List Msg) (w' : World) : Prop :=
  ∃ v' L' ms' rs' f', Pr w' K b kb r v' L' sq tr ms' rs' ∧ HW w' B hb n f' ∧ (∀ q, Ft b kb r v' L' ms' rs' q → Ft b kb r v L ms rs q ∨ w.heap.size ≤ q) ∧ (∀ q, HFt hb f' q → HFt hb f q ∨ w.heap.size ≤ q) ∧ Off (fun q => Ft b kb r v L ms rs q ∨ HFt hb f q) w w'
/-- The boxes have moved, then Held. -/
theorem PlH.of {m : Nat} (h : Pr w K b kb r v L sq tr ms rs) (hw : HW w B hb m f) (hp : PlR w K b kb r v L sq tr ms rs (fun _ => False) w1) (hq : ∀ f1, HW w1 B hb m f → f1 = f → HWQ w1 B hb n f1 w') : PlH w K b kb r B hb n v L f sq tr ms rs w' := by
  obtain ⟨v', L', ms', rs', p1, p2, p3⟩ := hp
  have hw1 : HW w1 B hb m f := hw.off p3 fun k hk hf => by
    rcases hf with g | g
    · exact hft_ne h.pb hw g hk
    · exact g
  obtain ⟨f', q1, q2, q3⟩ := hq f hw1 rfl
  refine ⟨v', L', ms', rs', f', ⟨p1.pb.off q3 fun q hf hk => hft_ne p1.pb hw1 hf hk, p1.wis, p1.ok⟩, q1, p2, fun q hk => ?_, (p3.mono fun q hk => ?_).trans (q3.mono fun q hk => Or.inr hk)⟩
  · rcases q2 q hk with g | g
    · exact Or.inl g
    · exact Or.inr (Nat.le_trans p3.size g)
  · rcases hk with g | g
    · exact Or.inl g
    · exact g.elim
end
end Go.Proofs.YtoijhecphgdfnaaGreatDoor

/-
  The law's plays: Go, walked.
-/
namespace Go.Proofs.YtoijhecphgdfnaaGreatDoor
open Go.RowKit

section
variable {w w1 w' : World} {K b kb r B hb n : Nat} {v L : Value} {f : Nat → Value} {sq : Bool} {tr : Int} {ms rs : List Msg}
end
end Go.Proofs.YtoijhecphgdfnaaGreatDoor

/-
  The law's plays: Due, walked.
-/
namespace Go.Proofs.YtoijhecphgdfnaaGreatDoor
open Go.RowKit

section
variable {w w1 w' : World} {K b kb r B hb n : Nat} {v L : Value} {f : Nat → Value} {sq : Bool} {tr : Int} {ms rs : List Msg}
end
end Go.Proofs.YtoijhecphgdfnaaGreatDoor

/-
  The law's plays: Heard, walked.
-/
namespace Go.Proofs.YtoijhecphgdfnaaGreatDoor
open Go.RowKit

section
variable {w w1 w' : World} {K b kb r B hb n : Nat} {v L : Value} {f : Nat → Value} {sq : Bool} {tr : Int} {ms rs : List Msg}
end
end Go.Proofs.YtoijhecphgdfnaaGreatDoor

/-
  Book.Take on Held's book: a text kept, and a copy.
-/
namespace Go.Proofs.YtoijhecphgdfnaaGreatDoor
open Go.RowKit

section
variable {w : World} {B hb n : Nat} {f : Nat → Value}
end
end Go.Proofs.YtoijhecphgdfnaaGreatDoor

/-
  Held.sents.
-/
namespace Go.Proofs.YtoijhecphgdfnaaGreatDoor
open Go.RowKit

/-- Messages copied behind an empty list. -/
theorem run_scopy {w W : World} {B m c : Nat} {a : Option Addr} {ds : List Msg} (h : ERow w B 91 10 encM (.slice a m c) ds) (hl : ds.length ≤ 1000000000) (hW : W = (w.alloc (.cells #[] 91)) ∨ W = (w.alloc (.cells #[] 91)).drew) :
    ∃ a' c' W', (Builtin.append_ #[97, 97] 97 #[.slice (some ⟨w.heap.size, 0, none⟩) 0 0, .slice a m c]).run Tryz.prog W = .ok (.slice a' m c') W' ∧ Hid (ERow W' w.heap.size 91 10 encM (.slice a' m c') ds ∧ Below w.heap.size w W') := by
  have b1 : Below w.heap.size w W := by
    rcases hW with rfl | rfl
    · exact (Below.refl _ _).alloc (Nat.le_refl _) _
    · exact ((Below.refl _ _).alloc (Nat.le_refl _) _).drew
  have hg : W.heap[w.heap.size]? = some (.cells #[] 91 (0, 0)) := by
    rcases hW with rfl | rfl
    · exact heap_alloc_new _ _
    · exact heap_alloc_new _ _
  have h0 : ERow W w.heap.size 91 10 encM (.slice (some ⟨w.heap.size, 0, none⟩) 0 0) [] := ⟨rfl, Or.inr ⟨w.heap.size, 0, #[], rfl, Nat.le_refl _, hg, Nat.le_refl _, Nat.zero_le _, rfl, rfl⟩⟩
  have hm : m = ds.length := ERow.len h
  have hc := ERow.below h b1
  obtain ⟨a', c', W', h1, r1, o1, _⟩ := run_eapp (P := Tryz.prog) (t := 97) (c := c) Tryz.underlying97 celS encM_len encM_one h0 (ys := ds) (n := m) (a := a) hm (fun e => by
    rcases ERow.form h with ⟨_, e2⟩ | ⟨g, cap, e2, _⟩
    · rw [hm, e2]; rfl
    · rw [e] at e2; cases e2) (fun a' ea j u hu => by
    rcases ERow.form hc with ⟨e1, e2⟩ | ⟨g, cap, e1, hgl, hcells, _⟩
    · rw [e2] at hu; simp at hu
    · obtain ⟨e3, _, _⟩ : a = some ⟨g, 0, none⟩ ∧ m = ds.length ∧ c = cap := by simpa using e1
      subst e3
      simp only [Option.some.injEq] at ea
      subst ea
      exact World.ownsRow.cells hc (g := g) rfl j u hu) (by simp; exact hl) (by decide) b1.size
  rw [List.length_nil, Nat.zero_add, ← hm] at h1 r1
  exact ⟨a', c', W', h1, r1, b1.trans (o1.below b1.size fun q hq => by simp [Value.ownBlock] at hq; omega)⟩
section
variable {w : World} {B hb n : Nat} {f : Nat → Value}
theorem held_ne (hw : HW w B hb n f) {q : Nat} {cs : Array Value} {t : TypeId} (hc : w.heap[q]? = some (.cells cs t (0, 0))) (t1 : t ≠ 41) (t2 : t ≠ 77) (t3 : t ≠ 97) (t4 : t ≠ 43) : ¬ HFt hb f q := fun h2 => by
  rcases h2 with e | ⟨j, hj, e⟩
  · rw [e, hw.blk] at hc
    simp only [Option.some.injEq, Obj.cells.injEq] at hc
    exact t1 hc.2.1.symm
  · obtain ⟨xs, _, hr⟩ := hw.row j hj
    obtain ⟨cs', hc'⟩ := row_type hr e
    rw [hc] at hc'
    simp only [Option.some.injEq, Obj.cells.injEq] at hc'
    have e2 := hc'.2.1
    unfold hty at e2
    split at e2
    · exact t2 e2
    split at e2
    · exact t3 e2
    · exact t4 e2
end
end Go.Proofs.YtoijhecphgdfnaaGreatDoor

/-
  The law's all: the looks ahead of Held.
-/
namespace Go.Proofs.YtoijhecphgdfnaaGreatDoor
open Go.RowKit

section
variable {w w' : World} {K b kb r B hb n : Nat} {v L : Value} {f : Nat → Value} {sq : Bool} {tr : Int} {ms rs ls : List Msg}
theorem cpf_tx {C : Nat} (h : CpF w C ls ms) (hm : ∀ m ∈ ms, m.tn ≤ 8192) : ∀ x ∈ ls, BRow w 0 (.slice x.tp x.tn x.tc) x.tx ∧ x.tn ≤ 8192 := fun x hx => by
  refine ⟨ERow.base (h.own x hx) (Nat.zero_le _), ?_⟩
  obtain ⟨i, hi, e⟩ := List.getElem_of_mem hx
  obtain ⟨y, a, c, hy, e2⟩ := h.wis.at_ (show ls[i]? = some x by rw [List.getElem?_eq_getElem hi, e])
  rw [e2]
  exact hm y (List.mem_of_getElem? hy)
end
end Go.Proofs.YtoijhecphgdfnaaGreatDoor
