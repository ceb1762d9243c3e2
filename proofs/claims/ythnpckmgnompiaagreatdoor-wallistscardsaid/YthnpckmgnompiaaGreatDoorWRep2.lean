/-
  The log's replay, with records.
-/
import Derived.Test.YthnpckmgnompiaaGreatDoorWReplay
import Derived.Test.YthnpckmgnompiaaGreatDoorWEq
import Derived.Deep.RegionLaw
namespace Go.Proofs.YthnpckmgnompiaaGreatDoor
open Go.RowKit Go.BigFrame

/-- append of one list of bytes to such lists, as one step of a region that draws. -/
theorem step_vpush {w : World} {B : Nat} {ops : Array Oper} {o : Oper} {a : Act} {K : Act → World → Prop} {Q : Exit → Act → World → Prop} {E : Prop} {v u : Value} {xs : List Value} {g : Nat} (hgd : o.guard = none) (s y : Operand)
    (ho : o.op = .call { callee := .builtin .append, args := #[s, y], argTypes := #[23, 23] }) (hs : a.eval s = v) (hx : a.eval y = .slice (some ⟨g, 0, none⟩) 1 1)
    (hr : VRow w B 22 v xs) (hc : w.cell? ⟨g, 0, none⟩ = some u) (h1 : u.oneCell' = true) (hb : xs.length ≤ 16777216) (hB : B ≤ w.heap.size)
    (h : ∀ a' c' w', Hid (VRow w' B 22 (.slice a' (xs.length + 1) c') (xs ++ [u])) → Hid (Off (fun k => v.ownBlock = some k) w w' ∧ ∀ g, (Value.slice a' (xs.length + 1) c').ownBlock = some g → v.ownBlock = some g ∨ w.heap.size ≤ g) → K (a.put o.dst (.slice a' (xs.length + 1) c')) w') :
    if Region.wanted o (yielded ops a.tmps) = true then Oper.wp Tryz.prog o a w K Q else E := by
  have hw : Region.wanted o (yielded ops a.tmps) = true := by simp [Region.wanted, hgd]
  obtain ⟨i, hi, hz, m1, m2⟩ := slinfo
  obtain ⟨v', w', hrn, r, p⟩ := run_append_two (P := Tryz.prog) w B 23 o.type 22 i _ 24 Tryz.underlying23 hi hz m1 m2 rfl v xs hr ⟨g, 0, none⟩ 1 1 [u] rfl (fun j z hj => by
    rw [Addr.add_lit, Nat.zero_add]
    match j, hj with
    | 0, hj => simp at hj; rw [← hj]; exact hc
    | j + 1, hj => simp at hj) (fun z hz => by rw [List.mem_singleton] at hz; rw [hz]; exact h1) (by unfold maxLen; omega) (by omega) hB
  rw [if_pos hw]
  unfold Oper.wp execOp
  simp only [ho, resolve, invoke, builtin, Sem.run_bind, Sem.run_pure, Result.andThen_ok, List.map_toArray, List.map_cons, List.map_nil, hs, hx, hrn]
  cases p with
  | same g' cap hv hv' hg => subst hv'; exact h _ _ _ r ⟨by rw [hv]; exact Off.of_grown hg, fun g e => Or.inl (by rw [hv]; exact e)⟩
  | idle hv hm hw => omega
  | fresh cap hv' hg hs' =>
    subst hv'
    refine h _ _ _ r ⟨(Off.of_grown hg).mono (fun k e => by cases e), fun g e => Or.inr ?_⟩
    simp [Value.ownBlock] at e
    omega
theorem one_first (z : World) (u : Value) (T : TypeId) : (z.alloc (.cells #[u] T)).cell? ⟨z.heap.size, 0, none⟩ = some u := by simp
/-- Lists of bytes of the call's own, each in a block of its own. -/
structure Rws (w : World) (C : Nat) (vs : List Value) (rs : List (List Int)) : Prop where
  len : vs.length = rs.length
  row : ∀ (i : Nat) (u : Value) (d : List Int), vs[i]? = some u → rs[i]? = some d → Row w C u d
  inj : ∀ (i j : Nat) (u v : Value), i < j → vs[i]? = some u → vs[j]? = some v → ∀ g, u.ownBlock = some g → v.ownBlock ≠ some g
theorem Rws.nil (w : World) (C : Nat) : Rws w C [] [] := ⟨rfl, fun i u d h => by simp at h, fun i j u v _ h => by simp at h⟩
theorem Rws.off {P : Nat → Prop} {w w' : World} {C : Nat} {vs : List Value} {rs : List (List Int)} (h : Rws w C vs rs) (o : Off P w w') (hP : ∀ (i : Nat) (u : Value), vs[i]? = some u → ∀ g, u.ownBlock = some g → ¬ P g) : Rws w' C vs rs :=
  ⟨h.len, fun i u d hu hd => (h.row i u d hu hd).off o (hP i u hu), h.inj⟩
theorem Rws.at_ {w : World} {C : Nat} {vs : List Value} {rs : List (List Int)} (h : Rws w C vs rs) {i : Nat} {u : Value} (hu : vs[i]? = some u) : ∃ d, rs[i]? = some d ∧ Row w C u d := by
  have hi := (List.getElem?_eq_some_iff.1 hu).1
  obtain ⟨d, hd⟩ : ∃ d, rs[i]? = some d := ⟨_, List.getElem?_eq_getElem (by rw [← h.len]; exact hi)⟩
  exact ⟨d, hd, h.row i u d hu hd⟩
theorem Rws.lt {w : World} {C : Nat} {vs : List Value} {rs : List (List Int)} (h : Rws w C vs rs) {i : Nat} {u : Value} (hu : vs[i]? = some u) {g : Nat} (hg : u.ownBlock = some g) : C ≤ g ∧ g < w.heap.size := by
  obtain ⟨d, _, hr⟩ := h.at_ hu
  exact hr.lt hg
theorem Rws.snoc {w : World} {C : Nat} {vs : List Value} {rs : List (List Int)} {u : Value} {d : List Int} (h : Rws w C vs rs) (hr : Row w C u d) (hn : ∀ (i : Nat) (v : Value), vs[i]? = some v → ∀ g, v.ownBlock = some g → u.ownBlock ≠ some g) : Rws w C (vs ++ [u]) (rs ++ [d]) := by
  have hat : ∀ (i : Nat) (v : Value), (vs ++ [u])[i]? = some v → (i < vs.length ∧ vs[i]? = some v) ∨ (i = vs.length ∧ v = u) := fun i v hv => by
    rcases Nat.lt_or_ge i vs.length with q | q
    · rw [List.getElem?_append_left q] at hv; exact Or.inl ⟨q, hv⟩
    · rw [List.getElem?_append_right q] at hv
      rcases Nat.eq_or_lt_of_le q with e | e
      · subst e; simp at hv; exact Or.inr ⟨rfl, hv.symm⟩
      · rw [List.getElem?_eq_none (by simp; omega)] at hv; cases hv
  refine ⟨by simp [h.len], fun i v c hv hc => ?_, fun i j v v' hij hv hv' g hg => ?_⟩
  · rcases hat i v hv with ⟨q, hv1⟩ | ⟨rfl, rfl⟩
    · rw [List.getElem?_append_left (by rw [← h.len]; exact q)] at hc
      exact h.row i v c hv1 hc
    · rw [h.len, List.getElem?_append_right (Nat.le_refl _), Nat.sub_self] at hc
      simp at hc
      subst hc
      exact hr
  · rcases hat i v hv with ⟨q, hv1⟩ | ⟨rfl, rfl⟩
    · rcases hat j v' hv' with ⟨q', hv2⟩ | ⟨rfl, rfl⟩
      · exact h.inj i j v v' hij hv1 hv2 g hg
      · exact hn i v hv1 g hg
    · rcases hat j v' hv' with ⟨q', _⟩ | ⟨rfl, _⟩ <;> omega
/-- A list of bytes and a list of lists lie in unlike blocks. -/
theorem row_ne {w : World} {B B' : Nat} {v v' : Value} {xs : List Int} {ys : List Value} (h : Row w B v xs) (h' : VRow w B' 22 v' ys) : ∀ g, v.ownBlock = some g → v'.ownBlock ≠ some g := fun g hg hg' => by
  rcases h.2 with ⟨rfl, _⟩ | ⟨g1, c1, u1, rfl, _, b1, _⟩
  · cases hg
  rcases h'.2 with ⟨rfl, _⟩ | ⟨g2, c2, u2, rfl, _, b2, _⟩
  · cases hg'
  simp only [Value.ownBlock, Option.some.injEq] at hg hg'
  subst hg; subst hg'
  rw [b1] at b2
  simp only [Option.some.injEq, Obj.cells.injEq] at b2
  exact absurd b2.2.1 (by decide)
/-- What a replay handed out: the snapshot, the list of records, the records: each in a block of its own, from B on. -/
def OwnQ (w : World) (B : Nat) (sv v2 : Value) (sn : List Int) (vs : List Value) (rs : List (List Int)) : Prop := ∃ C, B ≤ C ∧ Row w B sv sn ∧ VRow w B 22 v2 vs ∧ Rws w C vs rs ∧ ∀ g, sv.ownBlock = some g → g < C
theorem OwnQ.off {P : Nat → Prop} {w w' : World} {B : Nat} {sv v2 : Value} {sn : List Int} {vs : List Value} {rs : List (List Int)} (h : OwnQ w B sv v2 sn vs rs) (o : Off P w w') (hP : ∀ g, B ≤ g → g < w.heap.size → ¬ P g) : OwnQ w' B sv v2 sn vs rs := by
  obtain ⟨C, h1, h2, h3, h4, h5⟩ := h
  exact ⟨C, h1, h2.off o (fun g e => hP g (h2.lt e).1 (h2.lt e).2), h3.off o (fun g e => hP g (h3.lt e).1 (h3.lt e).2), h4.off o (fun i u hu g e => hP g (by have := (h4.lt hu e).1; omega) (h4.lt hu e).2), h5⟩
/-- What replay answers. -/
def RplQ (x : World) (g tn : Int) (sn : List Int) (rs : List (List Int)) (e : Ending) (w' : World) : Prop := ∃ a n k v2 vs, e = .returned (.agg #[.int .u64 g, .slice a n k, v2, .int .i64 tn]) ∧ Row w' x.heap.size (.slice a n k) sn ∧ VRow w' x.heap.size 22 v2 vs ∧ ((Pcs w' vs rs ∧ OwnQ w' x.heap.size (.slice a n k) v2 sn vs rs) ∧ PFar x.heap.size vs) ∧ Below x.heap.size x w'
/-- The loop of replay: the records copied so far. -/
structure RpI (W3 : World) (G C : Nat) (vs : List Value) (rs : List (List Int)) (j : Nat) (v2 : Value) (wx : World) : Prop where
  c2 : wx.cell? ⟨G, 2, none⟩ = some v2
  vr : VRow wx C 22 v2 vs
  pc : Pcs wx vs (rs.take j)
  ap : ∀ (i b o n c : Nat), vs[i]? = some (.slice (some ⟨b, o, none⟩) n c) → v2.ownBlock ≠ some b ∧ C ≤ b ∧ b < wx.heap.size
  of : Off (fun q => q = G) W3 wx
  fz : ∀ q, wx.frozen? ⟨G, q, none⟩ = false
  cg : ∀ q, q ≠ 2 → wx.cell? ⟨G, q, none⟩ = W3.cell? ⟨G, q, none⟩
  rw : Rws wx C vs (rs.take j)
theorem rp_keep {wr wY w9 : World} {G C : Nat} {v2 : Value} {vs : List Value} {A : Prop} (hGC : G < C) (hv : VRow wr C 22 v2 vs) (hO : Hid (Off (fun k => v2.ownBlock = some k) wY w9 ∧ A)) (hb : Below wr.heap.size wr wY) (hG : G < wr.heap.size) : (∀ q, w9.cell? ⟨G, q, none⟩ = wr.cell? ⟨G, q, none⟩) ∧ ∀ q, w9.frozen? ⟨G, q, none⟩ = wr.frozen? ⟨G, q, none⟩ := by
  have hn : ¬ v2.ownBlock = some G := fun e => by have := (hv.lt e).1; omega
  have hGY : G < wY.heap.size := Nat.lt_of_lt_of_le hG hb.size
  exact ⟨fun q => (hO.out.1.cell (p := ⟨G, q, none⟩) hGY hn).trans (hb.cell (p := ⟨G, q, none⟩) hG), fun q => (hO.out.1.frozen (p := ⟨G, q, none⟩) hGY hn).trans (hb.frozen (p := ⟨G, q, none⟩) hG)⟩
theorem RpI.push {W3 wr wy w9 : World} {G : Nat} {vs : List Value} {rs : List (List Int)} {j : Nat} {v2 : Value} {d : List Int} {a' a2 : Option Addr} {n' k' c2' : Nat} {T : TypeId} (h : RpI W3 G W3.heap.size vs rs j v2 wr) (hG : G < W3.heap.size) (hd : rs[j]? = some d) (hrow : Row wy wr.heap.size (.slice a' n' k') d) (hby : Below wr.heap.size wr wy) (hv : VRow w9 W3.heap.size 22 (.slice a2 (vs.length + 1) c2') (vs ++ [.slice a' n' k']))
    (hO : Hid (Off (fun k => v2.ownBlock = some k) (wy.alloc (.cells #[.slice a' n' k'] T)) w9 ∧ ∀ g, (Value.slice a2 (vs.length + 1) c2').ownBlock = some g → v2.ownBlock = some g ∨ (wy.alloc (.cells #[.slice a' n' k'] T)).heap.size ≤ g)) :
    RpI W3 G W3.heap.size (vs ++ [.slice a' n' k']) rs (j + 1) (.slice a2 (vs.length + 1) c2') (w9.setCell ⟨G, 2, none⟩ (.slice a2 (vs.length + 1) c2')) := by
  obtain ⟨e1, hB', hno, hbg⟩ := hrow.byts'
  have hWr : W3.heap.size ≤ wr.heap.size := h.of.size
  have bY : Below wr.heap.size wr (wy.alloc (.cells #[.slice a' n' k'] T)) := below_then hby ((Below.refl _ _).alloc (Nat.le_refl _) _)
  have hYs : (wy.alloc (.cells #[.slice a' n' k'] T)).heap.size = wy.heap.size + 1 := by simp
  obtain ⟨kc, kz⟩ := rp_keep hG h.vr hO bY (by omega)
  have own : ∀ b, v2.ownBlock = some b → W3.heap.size ≤ b ∧ b < wr.heap.size := fun b hb => h.vr.lt hb
  have offS : Off (fun k => k = G) w9 (w9.setCell ⟨G, 2, none⟩ (.slice a2 (vs.length + 1) c2')) := (Off.refl (fun k => k = G) w9).setCell (p := ⟨G, 2, none⟩) rfl _
  have byt : ∀ (z : World) (ao : Option Addr) (m : Nat) (bs : List Int), Byts z ao m bs → Below z.heap.size z (wy.alloc (.cells #[.slice a' n' k'] T)) → (∀ b o, ao = some ⟨b, o, none⟩ → v2.ownBlock ≠ some b ∧ W3.heap.size ≤ b) → Byts (w9.setCell ⟨G, 2, none⟩ (.slice a2 (vs.length + 1) c2')) ao m bs := fun z ao m bs hb hz hq =>
    byts_off (byts_off (hb.below hz) hO.out.1 (fun b o _ e => (hq b o e).1)) offS (fun b o _ e g => by have := (hq b o e).2; omega)
  have nb : ∀ b o, a' = some ⟨b, o, none⟩ → v2.ownBlock ≠ some b ∧ W3.heap.size ≤ b := fun b o e => by
    have := hbg b o e
    exact ⟨fun e' => by have := (own b e').2; omega, by omega⟩
  refine ⟨World.cell?_setCell_same' _ _ _ (by rw [kc, h.c2]; rfl), hv.off offS (fun g hg e => by have := (hv.lt hg).1; omega), ?_, ?_, ?_, fun q => by rw [World.frozen?_setCell, kz]; exact h.fz q, fun q hq => ?_, ?_⟩
  · have hts : rs.take (j + 1) = rs.take j ++ [d] := by rw [List.take_add_one, hd]; rfl
    rw [hts, show Value.slice a' n' k' = Value.slice a' d.length k' by rw [e1]]
    refine Pcs.snoc ⟨h.pc.1, fun i u d' hu hd' => ?_⟩ (by rw [← e1]; exact byt wy a' n' d hB' ((Below.refl _ _).alloc (Nat.le_refl _) _) nb) hno
    obtain ⟨a, c, e, hb, hn⟩ := h.pc.2 i u d' hu hd'
    refine ⟨a, c, e, byt wr a d'.length d' hb bY (fun b o e' => ?_), hn⟩
    subst e
    subst e'
    have hap := h.ap i b o _ _ hu
    exact ⟨hap.1, hap.2.1⟩
  · intro i b o n c hi
    by_cases hl : i < vs.length
    · rw [List.getElem?_append_left hl] at hi
      have hap := h.ap i b o n c hi
      have hs9 : wr.heap.size ≤ w9.heap.size := Nat.le_trans bY.size hO.out.1.size
      refine ⟨fun e => ?_, hap.2.1, by rw [World.size_setCell]; omega⟩
      rcases hO.out.2 b e with e' | e'
      · exact hap.1 e'
      · have := bY.size
        omega
    · rw [List.getElem?_append_right (by omega)] at hi
      have hi0 : i - vs.length = 0 := by
        by_cases h0 : i - vs.length = 0
        · exact h0
        · rw [List.getElem?_eq_none (by simp; omega)] at hi; cases hi
      rw [hi0] at hi
      simp at hi
      obtain ⟨rfl, rfl, rfl⟩ := hi
      have hnb := nb b o rfl
      have hlb : b < wy.heap.size := by
        rcases hrow.form with ⟨e, _⟩ | ⟨g, cap, e, _, hl, _⟩
        · cases e
        · cases e; exact hl
      have hs9 : wy.heap.size + 1 ≤ w9.heap.size := by rw [← hYs]; exact hO.out.1.size
      refine ⟨fun e => ?_, hnb.2, by rw [World.size_setCell]; omega⟩
      rcases hO.out.2 b e with e' | e'
      · exact hnb.1 e'
      · omega
  · refine (((h.of.trans (Off.of_below bY)).join hO.out.1 (fun i hi e => ?_)).trans offS)
    have := (own i e).1
    omega
  · rw [World.cell?_setCell_other _ _ _ _ (by simp; first | done | omega), kc]
    exact h.cg q hq
  · have hts : rs.take (j + 1) = rs.take j ++ [d] := by rw [List.take_add_one, hd]; rfl
    rw [hts]
    have o0 : Off (fun k => v2.ownBlock = some k) wr w9 := (Off.of_below bY).trans hO.out.1
    have old : Rws (w9.setCell ⟨G, 2, none⟩ (.slice a2 (vs.length + 1) c2')) W3.heap.size vs (rs.take j) := by
      refine (h.rw.off o0 (fun i u hu g hg e => ?_)).off offS (fun i u hu g hg e => ?_)
      · obtain ⟨d', _, hr⟩ := h.rw.at_ hu
        exact row_ne hr h.vr g hg e
      · have := (h.rw.lt hu hg).1; omega
    refine old.snoc ?_ (fun i v hv g hg e => ?_)
    · have hY' : Row (wy.alloc (.cells #[.slice a' n' k'] T)) wr.heap.size (.slice a' n' k') d := hrow.off (P := fun _ => False) ((Off.refl _ _).alloc _) (fun _ _ => id)
      refine ((hY'.off hO.out.1 (fun g hg e => ?_)).off offS (fun g hg e => ?_)).base hWr
      · have := (hrow.lt hg).1; have := (own g e).2; omega
      · have := (hrow.lt hg).1; omega
    · have := (h.rw.lt hv hg).2; have := (hrow.lt e).1; omega
set_option maxRecDepth 100000 in
set_option maxHeartbeats 8000000 in
theorem replay_any {f0 f1 : Fnd} {sn : List Int} {N : Nat} {us : List Value} {rs : List (List Int)} (x : World) (hb : Byts x f0.sa f0.sl sn) (hno : f0.sa = none → f0.sc = 0) (hV : VRow x N 22 (.slice f0.ra f0.rn f0.rc) us) (hP : Pcs x us rs) (hrl : rs.length ≤ 16777216) (hdl : ∀ d ∈ rs, d.length ≤ 16777216) (hsl : f0.sl ≤ 16777216) (hz0 : f0.sz ≤ 16777216) (hz1 : f1.sz ≤ 16777216) (hw : f0.wh ≤ 16777216) :
    Calls Tryz.prog 26 #[.agg f0.vals.toArray, .agg f1.vals.toArray] x fun e w' => RplQ x f0.g ((f1.sz : Int) + f0.sz - f0.wh) sn rs e w' := by
  obtain ⟨g0, sa0, sl0, sc0, ra0, rn0, rc0, sz0, sy0, wh0⟩ := f0
  obtain ⟨g1, sa1, sl1, sc1, ra1, rn1, rc1, sz1, sy1, wh1⟩ := f1
  simp only at hb hno hsl hV hz0 hz1 hw
  obtain ⟨ra', rc', hre, hra⟩ := hV.isSlice
  simp only [Value.slice.injEq] at hre
  obtain ⟨rfl, hrn, rfl⟩ := hre
  have HSrc : Hid (VRow x N 22 (.slice ra0 rn0 rc0) us ∧ Pcs x us rs ∧ rn0 = us.length ∧ rs.length ≤ 16777216 ∧ (∀ d ∈ rs, d.length ≤ 16777216)) := ⟨hV, hP, hrn, hrl, hdl⟩
  have hrb : rn0 ≤ 16777216 := by have := hP.1; omega
  have hrbi : (rn0 : Int) ≤ 16777216 := by omega
  clear hV hP hrn hrl hdl hra
  simp only [Fnd.vals]
  have HC : Hid (∀ z, Below x.heap.size x z → Calls Tryz.prog 66 #[.slice sa0 sl0 sc0] z fun e w' => ∃ a n k, e = .returned (.slice a n k) ∧ Row w' z.heap.size (.slice a n k) sn ∧ Below z.heap.size z w') := fun z hz => clone_any z (hb.below hz) hno (by omega)
  have q1 : IntKind.i64.wrap ((sz1 : Int) + sz0) = sz1 + sz0 := wrap_id (by omega) (by omega)
  have q2 : IntKind.i64.wrap ((sz1 : Int) + sz0 - wh0) = sz1 + sz0 - wh0 := wrap_id (by omega) (by omega)
  clear hb hno
  go_enter Tryz.func26, Tryz.ntmps26
  go_wp2_with fail
  obtain ⟨Y, hY⟩ : ∃ z, ((x.alloc (.cells #[.int .u64 g0, .slice sa0 sl0 sc0, .slice ra0 rn0 rc0, .int .i64 sz0, .int .i64 sy0, .int .i64 wh0] 93)).alloc (.cells #[.int .u64 g1, .slice sa1 sl1 sc1, .slice ra1 rn1 rc1, .int .i64 sz1, .int .i64 sy1, .int .i64 wh1] 93)).alloc (.cells #[.int .u64 0, .slice none 0 0, .slice none 0 0, .int .i64 0] 33) = z := ⟨_, rfl⟩
  have hYs : Y.heap.size = x.heap.size + 3 := by rw [← hY]; simp
  have bY : Below x.heap.size x Y := by rw [← hY]; exact below_allocs x _ _ _
  have cA : ∀ q, Y.cell? ⟨x.heap.size, q, none⟩ = (#[Value.int .u64 g0, Value.slice sa0 sl0 sc0, Value.slice ra0 rn0 rc0, Value.int .i64 sz0, Value.int .i64 sy0, Value.int .i64 wh0] : Array Value)[q]? := fun q => by
    rw [← hY, World.cell?_alloc_lt _ _ ⟨x.heap.size, q, none⟩ (by simp; omega), World.cell?_alloc_lt _ _ ⟨x.heap.size, q, none⟩ (by simp)]
    exact World.cell?_alloc_new _ _ _ _
  have cB : ∀ q, Y.cell? ⟨x.heap.size + 1, q, none⟩ = (#[Value.int .u64 g1, Value.slice sa1 sl1 sc1, Value.slice ra1 rn1 rc1, Value.int .i64 sz1, Value.int .i64 sy1, Value.int .i64 wh1] : Array Value)[q]? := fun q => by
    rw [← hY, World.cell?_alloc_lt _ _ ⟨x.heap.size + 1, q, none⟩ (by simp), show x.heap.size + 1 = (x.alloc (.cells #[.int .u64 g0, .slice sa0 sl0 sc0, .slice ra0 rn0 rc0, .int .i64 sz0, .int .i64 sy0, .int .i64 wh0] 93)).heap.size by simp]
    exact World.cell?_alloc_new _ _ _ _
  have cC : ∀ q, Y.cell? ⟨x.heap.size + 1 + 1, q, none⟩ = (#[Value.int .u64 0, Value.slice none 0 0, Value.slice none 0 0, Value.int .i64 0] : Array Value)[q]? := fun q => by
    rw [← hY, show x.heap.size + 1 + 1 = ((x.alloc (.cells #[.int .u64 g0, .slice sa0 sl0 sc0, .slice ra0 rn0 rc0, .int .i64 sz0, .int .i64 sy0, .int .i64 wh0] 93)).alloc (.cells #[.int .u64 g1, .slice sa1 sl1 sc1, .slice ra1 rn1 rc1, .int .i64 sz1, .int .i64 sy1, .int .i64 wh1] 93)).heap.size by simp]
    exact World.cell?_alloc_new _ _ _ _
  have zC : ∀ q, Y.frozen? ⟨x.heap.size + 1 + 1, q, none⟩ = false := fun q => by
    rw [← hY, show x.heap.size + 1 + 1 = ((x.alloc (.cells #[.int .u64 g0, .slice sa0 sl0 sc0, .slice ra0 rn0 rc0, .int .i64 sz0, .int .i64 sy0, .int .i64 wh0] 93)).alloc (.cells #[.int .u64 g1, .slice sa1 sl1 sc1, .slice ra1 rn1 rc1, .int .i64 sz1, .int .i64 sy1, .int .i64 wh1] 93)).heap.size by simp]
    exact World.frozen?_alloc_new _ _ _ _
  have HCA : Hid (Calls Tryz.prog 66 #[.slice sa0 sl0 sc0] Y.drew fun e w' => ∃ a n k, e = .returned (.slice a n k) ∧ Row w' Y.heap.size (.slice a n k) sn ∧ Below Y.heap.size Y w') := by
    have bz : Below Y.heap.size Y Y.drew := (Below.refl _ _).drew
    refine (HC.out _ (bY.trans (bz.mono bY.size))).mono ?_
    rintro e w' ⟨a, n, k, rfl, hr, hb⟩
    exact ⟨a, n, k, rfl, hr.base bz.size, bz.trans (hb.mono bz.size)⟩
  have HCB : Hid (Calls Tryz.prog 66 #[.slice sa0 sl0 sc0] (Y.alloc (.cells #[.int .u64 0, .slice none 0 0, .slice none 0 0, .int .i64 0] 33)).drew fun e w' => ∃ a n k, e = .returned (.slice a n k) ∧ Row w' (Y.heap.size + 1) (.slice a n k) sn ∧ Below Y.heap.size Y w' ∧ Y.heap.size < w'.heap.size ∧ w'.cell? ⟨Y.heap.size, 0, none⟩ = some (.int .u64 0) ∧ w'.cell? ⟨Y.heap.size, 1, none⟩ = some (.slice none 0 0) ∧ w'.cell? ⟨Y.heap.size, 2, none⟩ = some (.slice none 0 0) ∧ w'.cell? ⟨Y.heap.size, 3, none⟩ = some (.int .i64 0) ∧ (∀ q, w'.frozen? ⟨Y.heap.size, q, none⟩ = false)) := by
    have bz : Below Y.heap.size Y (Y.alloc (.cells #[.int .u64 0, .slice none 0 0, .slice none 0 0, .int .i64 0] 33)).drew := ((Below.refl _ _).alloc (Nat.le_refl _) _).drew
    have hzs : (Y.alloc (.cells #[.int .u64 0, .slice none 0 0, .slice none 0 0, .int .i64 0] 33)).drew.heap.size = Y.heap.size + 1 := by simp
    refine (HC.out _ (bY.trans (bz.mono bY.size))).mono ?_
    rintro e w' ⟨a, n, k, rfl, hr, hb⟩
    have hc : ∀ q, w'.cell? ⟨Y.heap.size, q, none⟩ = (#[Value.int .u64 0, Value.slice none 0 0, Value.slice none 0 0, Value.int .i64 0] : Array Value)[q]? := fun q => (hb.cell (p := ⟨Y.heap.size, q, none⟩) (by rw [hzs]; simp)).trans (World.cell?_alloc_new _ _ _ _)
    refine ⟨a, n, k, rfl, hr.base (by rw [hzs]; exact Nat.le_refl _), bz.trans (hb.mono bz.size), by have := hb.size; omega, hc 0, hc 1, hc 2, hc 3, fun q => (hb.frozen (p := ⟨Y.heap.size, q, none⟩) (by rw [hzs]; simp)).trans (World.frozen?_alloc_new _ _ _ _)⟩
  rw [hY]
  have a0 : Y.cell? ⟨x.heap.size, 0, none⟩ = some (.int .u64 g0) := cA 0
  have a1 : Y.cell? ⟨x.heap.size, 1, none⟩ = some (.slice sa0 sl0 sc0) := cA 1
  have a3 : Y.cell? ⟨x.heap.size, 3, none⟩ = some (.int .i64 sz0) := cA 3
  have a5 : Y.cell? ⟨x.heap.size, 5, none⟩ = some (.int .i64 wh0) := cA 5
  have b3 : Y.cell? ⟨x.heap.size + 1, 3, none⟩ = some (.int .i64 sz1) := cB 3
  have lA : x.heap.size < Y.heap.size := by omega
  have lB : x.heap.size + 1 < Y.heap.size := by omega
  have lC : x.heap.size + 1 + 1 < Y.heap.size := by omega
  have HF : Hid ((∀ q, Y.cell? ⟨x.heap.size, q, none⟩ = (#[Value.int .u64 g0, Value.slice sa0 sl0 sc0, Value.slice ra0 rn0 rc0, Value.int .i64 sz0, Value.int .i64 sy0, Value.int .i64 wh0] : Array Value)[q]?) ∧ (∀ q, Y.cell? ⟨x.heap.size + 1 + 1, q, none⟩ = (#[Value.int .u64 0, Value.slice none 0 0, Value.slice none 0 0, Value.int .i64 0] : Array Value)[q]?) ∧ (∀ q, Y.frozen? ⟨x.heap.size + 1 + 1, q, none⟩ = false) ∧ Below x.heap.size x Y) := ⟨cA, cC, zC, bY⟩
  clear hY cA cB cC zC bY HC hYs
  go_wp2_with fail
  go_region_held3 (fun y => y.cell? ⟨x.heap.size, 0, none⟩ = some (.int .u64 g0) ∧ y.cell? ⟨x.heap.size, 1, none⟩ = some (.slice sa0 sl0 sc0) ∧ y.cell? ⟨x.heap.size, 3, none⟩ = some (.int .i64 sz0) ∧ y.cell? ⟨x.heap.size, 5, none⟩ = some (.int .i64 wh0) ∧ y.cell? ⟨x.heap.size + 1, 3, none⟩ = some (.int .i64 sz1)) (first | (simp [*]; done) | simp [*, World.cell?_alloc_some]) (first | (go_at_call 66; refine HCA.out.mono ?_; rintro e w1 ⟨a, n, k, rfl, hrow, hb1⟩; have e0 : w1.cell? ⟨x.heap.size, 0, none⟩ = some (.int .u64 g0) := (hb1.cell (p := ⟨x.heap.size, 0, none⟩) lA).trans a0; have e1 : w1.cell? ⟨x.heap.size, 1, none⟩ = some (.slice sa0 sl0 sc0) := (hb1.cell (p := ⟨x.heap.size, 1, none⟩) lA).trans a1; have e3 : w1.cell? ⟨x.heap.size, 3, none⟩ = some (.int .i64 sz0) := (hb1.cell (p := ⟨x.heap.size, 3, none⟩) lA).trans a3; have e5 : w1.cell? ⟨x.heap.size, 5, none⟩ = some (.int .i64 wh0) := (hb1.cell (p := ⟨x.heap.size, 5, none⟩) lA).trans a5; have e6 : w1.cell? ⟨x.heap.size + 1, 3, none⟩ = some (.int .i64 sz1) := (hb1.cell (p := ⟨x.heap.size + 1, 3, none⟩) lB).trans b3; have l1 : x.heap.size < w1.heap.size := Nat.lt_of_lt_of_le lA hb1.size; have l2 : x.heap.size + 1 < w1.heap.size := Nat.lt_of_lt_of_le lB hb1.size) | (go_at_call 66; refine HCB.out.mono ?_; rintro e w1 ⟨a, n, k, rfl, hrow, hb1, hgl, t0, t1, t2, t3, tz⟩; have e0 : w1.cell? ⟨x.heap.size, 0, none⟩ = some (.int .u64 g0) := (hb1.cell (p := ⟨x.heap.size, 0, none⟩) lA).trans a0; have e1 : w1.cell? ⟨x.heap.size, 1, none⟩ = some (.slice sa0 sl0 sc0) := (hb1.cell (p := ⟨x.heap.size, 1, none⟩) lA).trans a1; have e3 : w1.cell? ⟨x.heap.size, 3, none⟩ = some (.int .i64 sz0) := (hb1.cell (p := ⟨x.heap.size, 3, none⟩) lA).trans a3; have e5 : w1.cell? ⟨x.heap.size, 5, none⟩ = some (.int .i64 wh0) := (hb1.cell (p := ⟨x.heap.size, 5, none⟩) lA).trans a5; have e6 : w1.cell? ⟨x.heap.size + 1, 3, none⟩ = some (.int .i64 sz1) := (hb1.cell (p := ⟨x.heap.size + 1, 3, none⟩) lB).trans b3; have l1 : x.heap.size < w1.heap.size := Nat.lt_of_lt_of_le lA hb1.size; have l2 : x.heap.size + 1 < w1.heap.size := Nat.lt_of_lt_of_le lB hb1.size; have tz0 := tz 0; have tz1 := tz 1; have tz2 := tz 2; have tz3 := tz 3; have sA : ∀ (X : World) (u : Value) (q r : Nat), (X.setCell ⟨Y.heap.size, q, none⟩ u).cell? ⟨x.heap.size, r, none⟩ = X.cell? ⟨x.heap.size, r, none⟩ := (fun X u q r => World.cell?_setCell_other _ _ _ _ (by simp; first | done | omega)); have sB : ∀ (X : World) (u : Value) (q r : Nat), (X.setCell ⟨Y.heap.size, q, none⟩ u).cell? ⟨x.heap.size + 1, r, none⟩ = X.cell? ⟨x.heap.size + 1, r, none⟩ := (fun X u q r => World.cell?_setCell_other _ _ _ _ (by simp; first | done | omega))))
  · have ho : Off (fun _ => False) w1 (w1.alloc (.cells #[.int .u64 g0, .slice a n k, .slice none 0 0, .int .i64 ((sz1 : Int) + sz0 - wh0)] 33)) := (Off.refl _ _).alloc _
    obtain ⟨G, hG⟩ : ∃ G, w1.heap.size = G := ⟨_, rfl⟩
    obtain ⟨W3, hW3⟩ : ∃ W, w1.alloc (.cells #[.int .u64 g0, .slice a n k, .slice none 0 0, .int .i64 ((sz1 : Int) + sz0 - wh0)] 33) = W := ⟨_, rfl⟩
    have hGc : ∀ q, W3.cell? ⟨G, q, none⟩ = (#[Value.int .u64 g0, Value.slice a n k, Value.slice none 0 0, Value.int .i64 ((sz1 : Int) + sz0 - wh0)] : Array Value)[q]? := fun q => by rw [← hW3, ← hG]; exact World.cell?_alloc_new _ _ _ _
    have y0 : W3.cell? ⟨G, 0, none⟩ = some (.int .u64 g0) := hGc 0
    have y1 : W3.cell? ⟨G, 1, none⟩ = some (.slice a n k) := hGc 1
    have y2 : W3.cell? ⟨G, 2, none⟩ = some (.slice none 0 0) := hGc 2
    have y3 : W3.cell? ⟨G, 3, none⟩ = some (.int .i64 ((sz1 : Int) + sz0 - wh0)) := hGc 3
    rw [hW3] at ho
    rw [hW3, hG]
    have f2 : W3.cell? ⟨x.heap.size, 2, none⟩ = some (.slice ra0 rn0 rc0) := (ho.cell (p := ⟨x.heap.size, 2, none⟩) l1 id).trans ((hb1.cell (p := ⟨x.heap.size, 2, none⟩) lA).trans (HF.out.1 2))
    have l3 : x.heap.size + 1 + 1 < w1.heap.size := Nat.lt_of_lt_of_le lC hb1.size
    have hRc : ∀ q, W3.cell? ⟨x.heap.size + 1 + 1, q, none⟩ = (#[Value.int .u64 0, Value.slice none 0 0, Value.slice none 0 0, Value.int .i64 0] : Array Value)[q]? := fun q => (ho.cell (p := ⟨x.heap.size + 1 + 1, q, none⟩) l3 id).trans ((hb1.cell (p := ⟨x.heap.size + 1 + 1, q, none⟩) lC).trans (HF.out.2.1 q))
    have hRz : ∀ q, W3.frozen? ⟨x.heap.size + 1 + 1, q, none⟩ = false := fun q => (ho.frozen (p := ⟨x.heap.size + 1 + 1, q, none⟩) l3 id).trans ((hb1.frozen (p := ⟨x.heap.size + 1 + 1, q, none⟩) lC).trans (HF.out.2.2.1 q))
    have r0 : W3.cell? ⟨x.heap.size + 1 + 1, 0, none⟩ = some (.int .u64 0) := hRc 0
    have r1 : W3.cell? ⟨x.heap.size + 1 + 1, 1, none⟩ = some (.slice none 0 0) := hRc 1
    have r2 : W3.cell? ⟨x.heap.size + 1 + 1, 2, none⟩ = some (.slice none 0 0) := hRc 2
    have r3 : W3.cell? ⟨x.heap.size + 1 + 1, 3, none⟩ = some (.int .i64 0) := hRc 3
    have z0 := hRz 0
    have z1 := hRz 1
    have z2 := hRz 2
    have z3 := hRz 3
    have hrow3 : Row W3 Y.heap.size (.slice a n k) sn := hrow.off ho (fun q hq e => e)
    have HE : Hid (Row W3 Y.heap.size (.slice a n k) sn ∧ Below x.heap.size x W3) := ⟨hrow3, (HF.out.2.2.2.trans (hb1.mono HF.out.2.2.2.size)).trans (ho.below (by omega) (fun q g => g.elim))⟩
    have hGz : ∀ q, W3.frozen? ⟨G, q, none⟩ = false := fun q => by rw [← hW3, ← hG]; exact World.frozen?_alloc_new _ _ _ _
    have HRc : Hid (∀ q, W3.cell? ⟨x.heap.size + 1 + 1, q, none⟩ = (#[Value.int .u64 0, Value.slice none 0 0, Value.slice none 0 0, Value.int .i64 0] : Array Value)[q]?) := hRc
    have HRz : Hid (∀ q, W3.frozen? ⟨x.heap.size + 1 + 1, q, none⟩ = false) := hRz
    have hRG : x.heap.size + 1 + 1 < G := by omega
    have HNG : Hid (∀ q, (Value.slice a n k).ownBlock = some q → q ≠ G ∧ x.heap.size + 1 + 1 < q) := fun q hq => by have := hrow.lt hq; omega
    have HYx : Hid (x.heap.size ≤ Y.heap.size) := by show _ ≤ _; omega
    clear ho hG hW3 hGc hRc hRz hrow hrow3 hb1 e0 e1 e3 e5 e6 a0 a1 a3 a5 b3 HF HCA HCB
    have HI0 : Hid (RpI W3 G W3.heap.size [] rs 0 (.slice none 0 0) W3) := ⟨y2, VRow.nil _ _ _, ⟨by simp, fun j u d hu => by simp at hu⟩, fun j b o n c hj => by simp at hj, Off.refl _ _, hGz, fun q _ => rfl, by rw [List.take_zero]; exact Rws.nil _ _⟩
    have HGz : Hid ((∀ q, W3.frozen? ⟨G, q, none⟩ = false) ∧ G < W3.heap.size ∧ W3.cell? ⟨G, 0, none⟩ = some (.int .u64 g0) ∧ W3.cell? ⟨G, 1, none⟩ = some (.slice a n k) ∧ W3.cell? ⟨G, 3, none⟩ = some (.int .i64 ((sz1 : Int) + sz0 - wh0))) := ⟨hGz, cell_lt y0, y0, y1, y3⟩
    have HRx : Hid ((∀ q v, (#[Value.int .u64 0, Value.slice none 0 0, Value.slice none 0 0, Value.int .i64 0] : Array Value)[q]? = some v → W3.cell? ⟨x.heap.size + 1 + 1, q, none⟩ = some v) ∧ (∀ q, W3.frozen? ⟨x.heap.size + 1 + 1, q, none⟩ = false) ∧ x.heap.size + 1 + 1 < W3.heap.size ∧ x.heap.size + 1 + 1 < G) := ⟨fun q v h => (HRc.out q).trans h, HRz.out, cell_lt r0, hRG⟩
    clear y0 y1 y2 y3 r0 r1 r2 r3 z0 z1 z2 z3 hGz HRc HRz hRG
    go_wp2_with fail
    go_loopw [7, 25] (fun _ t25 wx => ∃ (j : Nat) (v2 : Value) (vs : List Value), j ≤ rn0 ∧ t25 = .int .i64 j ∧ Hid (RpI W3 G W3.heap.size vs rs j v2 wx)) (fun _ t25 _ => rn0 - (intOf t25).toNat)
    case atStart => exact ⟨0, .slice none 0 0, [], by omega, rfl, HI0.out⟩
    case round =>
      obtain ⟨j, v2, vs, hj, rfl, HK⟩ := hrel
      by_cases hlt : j < rn0
      · have hlti : (j : Int) < rn0 := by omega
        obtain ⟨u, hu⟩ : ∃ u, us[j]? = some u := ⟨_, List.getElem?_eq_getElem (by have := HSrc.out.2.2.1; omega)⟩
        obtain ⟨d, hd⟩ : ∃ d, rs[j]? = some d := ⟨_, List.getElem?_eq_getElem (by have := HSrc.out.2.1.1; have := HSrc.out.2.2.1; omega)⟩
        obtain ⟨ua, uc, rfl, hub, hun⟩ := HSrc.out.2.1.2 j u d hu hd
        obtain ⟨rb, rfl⟩ : ∃ rb, ra0 = some ⟨rb, 0, none⟩ := by
          rcases HSrc.out.1.form with ⟨e, _⟩ | ⟨g, cap, e, _⟩
          · cases e; omega
          · cases e; exact ⟨g, rfl⟩
        have hxW : Below x.heap.size x W3 := HE.out.2
        have hoff : Off (fun q => q = G) W3 wr := HK.out.of
        have hGx : x.heap.size < G := by have := HRx.out.2.2.2; omega
        have hxw : Below x.heap.size x wr := hxW.trans (hoff.below hxW.size (fun q e => by omega))
        have c1 : wr.cell? ⟨rb, j, none⟩ = some (.slice ua d.length uc) := below_cell hxw (HSrc.out.1.slot hu)
        have c2 := HK.out.c2
        have HCl : Hid (∀ z, Below wr.heap.size wr z → Calls Tryz.prog 66 #[.slice ua d.length uc] z fun e w' => ∃ a' n' k', e = .returned (.slice a' n' k') ∧ Hid (Row w' wr.heap.size (.slice a' n' k') d) ∧ Below wr.heap.size wr w' ∧ w'.cell? ⟨G, 2, none⟩ = some v2) := fun z hz => (clone_any z (hub.below (below_then hxw hz)) hun (by have := HSrc.out.2.2.2.2 d (List.mem_of_getElem? hd); omega)).mono fun e w' ⟨a', n', k', he, hr, hb⟩ => ⟨a', n', k', he, hr.base hz.size, below_then hz hb, below_cell (below_then hz hb) HK.out.c2⟩
        have hB0 : Below wr.heap.size wr wr := Below.refl _ _
        have HGW : Hid (G < W3.heap.size ∧ W3.heap.size ≤ wr.heap.size) := ⟨HGz.out.2.1, hoff.size⟩
        have HZ : Hid (∀ q, wr.frozen? ⟨G, q, none⟩ = false) := HK.out.fz
        have HVr : Hid (VRow wr W3.heap.size 22 v2 vs ∧ vs.length ≤ 16777216) := ⟨HK.out.vr, by have := HK.out.pc.1; simp at this; omega⟩
        have Hd : Hid (rs[j]? = some d) := hd
        clear hub hun hu hd hxW hoff hxw
        go_wp2_with fail
        go_region_law (first | (refine step_vpush (B := W3.heap.size) rfl (.tmp 30) (.tmp 33) rfl rfl rfl (HVr.out.1.off (Off.of_below (P := fun _ => False) (below_then hby ((Below.refl _ _).alloc (Nat.le_refl _) _))) (fun _ _ => id)) (one_first _ _ _) rfl HVr.out.2 ?_ ?_; exact Nat.le_trans HGW.out.2 (below_then hby ((Below.refl _ _).alloc (Nat.le_refl _) _)).size; intro a2 c2' w9 HV9 HO9; obtain ⟨kc, kz⟩ := rp_keep HGW.out.1 HVr.out.1 HO9 (below_then hby ((Below.refl _ _).alloc (Nat.le_refl _) _)) (Nat.lt_of_lt_of_le HGW.out.1 HGW.out.2); have g3 := (kc 2).trans c2; have g4 := (kz 2).trans (HZ.out 2); clear kc kz) | (go_simp; go_at_call 66; refine (HCl.out _ ?_).mono ?_; (first | assumption | exact Below.drew (by assumption)); rintro e wy ⟨a', n', k', rfl, HRow, hby, g2⟩; have g5 : ∀ o, (wy.alloc o).cell? ⟨G, 2, none⟩ = some v2 := fun o => (World.cell?_alloc_lt _ _ ⟨G, 2, none⟩ (cell_lt g2)).trans g2; go_wp2_with fail))
        all_goals
          have HF : Hid (RpI W3 G W3.heap.size (vs ++ [.slice a' n' k']) rs (j + 1) (.slice a2 (vs.length + 1) c2') (w9.setCell ⟨G, 2, none⟩ (.slice a2 (vs.length + 1) c2'))) := HK.out.push HGW.out.1 Hd.out HRow.out hby HV9.out HO9
          go_wp2_with fail
          go_roundw
          case rel => exact ⟨j + 1, _, _, by omega, by go_num, HF.out⟩
          case measure => simp [intOf]; omega
      · have hlti : ¬ (j : Int) < rn0 := by omega
        have hjn : j = rn0 := by omega
        obtain ⟨va, vc, hv2, _⟩ := HK.out.vr.isSlice
        subst hv2
        obtain ⟨hgz, hGl, y0', y1', y3'⟩ := HGz.out
        have y0 : wr.cell? ⟨G, 0, none⟩ = some (.int .u64 g0) := (HK.out.cg 0 (by omega)).trans y0'
        have y1 : wr.cell? ⟨G, 1, none⟩ = some (.slice a n k) := (HK.out.cg 1 (by omega)).trans y1'
        have y2 := HK.out.c2
        have y3 : wr.cell? ⟨G, 3, none⟩ = some (.int .i64 ((sz1 : Int) + sz0 - wh0)) := (HK.out.cg 3 (by omega)).trans y3'
        obtain ⟨hRc, hRz, hRl, hRg⟩ := HRx.out
        have hRn : ¬ x.heap.size + 1 + 1 = G := by omega
        have r0 : wr.cell? ⟨x.heap.size + 1 + 1, 0, none⟩ = some (.int .u64 0) := off_cell HK.out.of (hRc 0 _ rfl) hRn
        have r1 : wr.cell? ⟨x.heap.size + 1 + 1, 1, none⟩ = some (.slice none 0 0) := off_cell HK.out.of (hRc 1 _ rfl) hRn
        have r2 : wr.cell? ⟨x.heap.size + 1 + 1, 2, none⟩ = some (.slice none 0 0) := off_cell HK.out.of (hRc 2 _ rfl) hRn
        have r3 : wr.cell? ⟨x.heap.size + 1 + 1, 3, none⟩ = some (.int .i64 0) := off_cell HK.out.of (hRc 3 _ rfl) hRn
        have hz : ∀ q, wr.frozen? ⟨x.heap.size + 1 + 1, q, none⟩ = false := fun q => (HK.out.of.frozen (p := ⟨x.heap.size + 1 + 1, q, none⟩) hRl hRn).trans (hRz q)
        have z0 := hz 0
        have z1 := hz 1
        have z2 := hz 2
        have z3 := hz 3
        obtain ⟨ho, q0, q1, q2, q3⟩ := set_four r0 r1 r2 r3 (.int .u64 g0) (.slice a n k) (.slice va vs.length vc) (.int .i64 ((sz1 : Int) + sz0 - wh0))
        have HFin : Hid (Row ((((wr.setCell ⟨x.heap.size + 1 + 1, 0, none⟩ (.int .u64 g0)).setCell ⟨x.heap.size + 1 + 1, 1, none⟩ (.slice a n k)).setCell ⟨x.heap.size + 1 + 1, 2, none⟩ (.slice va vs.length vc)).setCell ⟨x.heap.size + 1 + 1, 3, none⟩ (.int .i64 ((sz1 : Int) + sz0 - wh0))) x.heap.size (.slice a n k) sn ∧ VRow ((((wr.setCell ⟨x.heap.size + 1 + 1, 0, none⟩ (.int .u64 g0)).setCell ⟨x.heap.size + 1 + 1, 1, none⟩ (.slice a n k)).setCell ⟨x.heap.size + 1 + 1, 2, none⟩ (.slice va vs.length vc)).setCell ⟨x.heap.size + 1 + 1, 3, none⟩ (.int .i64 ((sz1 : Int) + sz0 - wh0))) x.heap.size 22 (.slice va vs.length vc) vs ∧ ((Pcs ((((wr.setCell ⟨x.heap.size + 1 + 1, 0, none⟩ (.int .u64 g0)).setCell ⟨x.heap.size + 1 + 1, 1, none⟩ (.slice a n k)).setCell ⟨x.heap.size + 1 + 1, 2, none⟩ (.slice va vs.length vc)).setCell ⟨x.heap.size + 1 + 1, 3, none⟩ (.int .i64 ((sz1 : Int) + sz0 - wh0))) vs rs ∧ OwnQ ((((wr.setCell ⟨x.heap.size + 1 + 1, 0, none⟩ (.int .u64 g0)).setCell ⟨x.heap.size + 1 + 1, 1, none⟩ (.slice a n k)).setCell ⟨x.heap.size + 1 + 1, 2, none⟩ (.slice va vs.length vc)).setCell ⟨x.heap.size + 1 + 1, 3, none⟩ (.int .i64 ((sz1 : Int) + sz0 - wh0))) x.heap.size (.slice a n k) (.slice va vs.length vc) sn vs rs) ∧ PFar x.heap.size vs) ∧ Below x.heap.size x ((((wr.setCell ⟨x.heap.size + 1 + 1, 0, none⟩ (.int .u64 g0)).setCell ⟨x.heap.size + 1 + 1, 1, none⟩ (.slice a n k)).setCell ⟨x.heap.size + 1 + 1, 2, none⟩ (.slice va vs.length vc)).setCell ⟨x.heap.size + 1 + 1, 3, none⟩ (.int .i64 ((sz1 : Int) + sz0 - wh0)))) := by
          have hbw : Below x.heap.size x wr := HE.out.2.trans (HK.out.of.below HE.out.2.size (fun q e => by omega))
          refine ⟨((HE.out.1.off HK.out.of (fun q hq e => (HNG.out q hq).1 e)).off ho (fun q hq e => by have := (HNG.out q hq).2; omega)).base HYx.out, (HK.out.vr.off ho (fun q hq e => by have := (HK.out.vr.lt hq).1; omega)).low (by omega), ⟨⟨?_, ⟨W3.heap.size, HE.out.2.size, ((HE.out.1.off HK.out.of (fun q hq e => (HNG.out q hq).1 e)).off ho (fun q hq e => by have := (HNG.out q hq).2; omega)).base HYx.out, (HK.out.vr.off ho (fun q hq e => by have := (HK.out.vr.lt hq).1; omega)).low (by omega), by
            have h9 := HK.out.rw
            rw [List.take_of_length_le (by have := HSrc.out.2.1.1; have := HSrc.out.2.2.1; omega)] at h9
            exact h9.off ho (fun i u hu q hq e => by have := (h9.lt hu hq).1; omega), fun q hq => (HE.out.1.lt hq).2⟩⟩, fun i b o n c hi => by have := (HK.out.ap i b o n c hi).2.1; omega⟩, hbw.trans (ho.below hbw.size (fun q e => by omega))⟩
          have hpc := HK.out.pc
          rw [List.take_of_length_le (by have := HSrc.out.2.1.1; have := HSrc.out.2.2.1; omega)] at hpc
          refine ⟨hpc.1, fun i u d hu hd => ?_⟩
          obtain ⟨ua, uc, e, hb, hn⟩ := hpc.2 i u d hu hd
          refine ⟨ua, uc, e, byts_off hb ho (fun b o _ e' g => ?_), hn⟩
          subst e
          subst e'
          have := (HK.out.ap i b o _ _ hu).2.1
          omega
        clear ho hz hRc hRz
        go_wp2_with fail
        exact bodyPost_ret (v := .agg #[.int .u64 g0, .slice a n k, .slice va vs.length vc, .int .i64 ((sz1 : Int) + sz0 - wh0)]) (by simp [results, Tryz.results26, go_sem, q0, q1, q2, q3]) rfl ⟨a, n, k, _, vs, rfl, HFin.out⟩
  · obtain ⟨ho, y0, y1, y2, y3⟩ := set_four t0 t1 t2 t3 (.int .u64 g0) (.slice a n k) (.slice none 0 0) (.int .i64 ((sz1 : Int) + sz0 - wh0))
    obtain ⟨W3, hW3⟩ : ∃ W, (((w1.setCell ⟨Y.heap.size, 0, none⟩ (.int .u64 g0)).setCell ⟨Y.heap.size, 1, none⟩ (.slice a n k)).setCell ⟨Y.heap.size, 2, none⟩ (.slice none 0 0)).setCell ⟨Y.heap.size, 3, none⟩ (.int .i64 ((sz1 : Int) + sz0 - wh0)) = W := ⟨_, rfl⟩
    rw [hW3] at ho y0 y1 y2 y3 ⊢
    have f2 : W3.cell? ⟨x.heap.size, 2, none⟩ = some (.slice ra0 rn0 rc0) := (ho.cell (p := ⟨x.heap.size, 2, none⟩) l1 (by simp only; omega)).trans ((hb1.cell (p := ⟨x.heap.size, 2, none⟩) lA).trans (HF.out.1 2))
    have l3 : x.heap.size + 1 + 1 < w1.heap.size := Nat.lt_of_lt_of_le lC hb1.size
    have hRc : ∀ q, W3.cell? ⟨x.heap.size + 1 + 1, q, none⟩ = (#[Value.int .u64 0, Value.slice none 0 0, Value.slice none 0 0, Value.int .i64 0] : Array Value)[q]? := fun q => (ho.cell (p := ⟨x.heap.size + 1 + 1, q, none⟩) l3 (by simp only; omega)).trans ((hb1.cell (p := ⟨x.heap.size + 1 + 1, q, none⟩) lC).trans (HF.out.2.1 q))
    have hRz : ∀ q, W3.frozen? ⟨x.heap.size + 1 + 1, q, none⟩ = false := fun q => (ho.frozen (p := ⟨x.heap.size + 1 + 1, q, none⟩) l3 (by simp only; omega)).trans ((hb1.frozen (p := ⟨x.heap.size + 1 + 1, q, none⟩) lC).trans (HF.out.2.2.1 q))
    have r0 : W3.cell? ⟨x.heap.size + 1 + 1, 0, none⟩ = some (.int .u64 0) := hRc 0
    have r1 : W3.cell? ⟨x.heap.size + 1 + 1, 1, none⟩ = some (.slice none 0 0) := hRc 1
    have r2 : W3.cell? ⟨x.heap.size + 1 + 1, 2, none⟩ = some (.slice none 0 0) := hRc 2
    have r3 : W3.cell? ⟨x.heap.size + 1 + 1, 3, none⟩ = some (.int .i64 0) := hRc 3
    have z0 := hRz 0
    have z1 := hRz 1
    have z2 := hRz 2
    have z3 := hRz 3
    have hrow3 : Row W3 (Y.heap.size + 1) (.slice a n k) sn := hrow.off ho (fun q hq e => by have := (hrow.lt hq).1; omega)
    have HE : Hid (Row W3 (Y.heap.size + 1) (.slice a n k) sn ∧ Below x.heap.size x W3) := ⟨hrow3, (HF.out.2.2.2.trans (hb1.mono HF.out.2.2.2.size)).trans (ho.below (by omega) (fun q g => by omega))⟩
    obtain ⟨G, hG⟩ : ∃ G, Y.heap.size = G := ⟨_, rfl⟩
    have hGz : ∀ q, W3.frozen? ⟨G, q, none⟩ = false := fun q => by rw [← hW3, ← hG]; simp only [World.frozen?_setCell]; exact tz q
    have HRc : Hid (∀ q, W3.cell? ⟨x.heap.size + 1 + 1, q, none⟩ = (#[Value.int .u64 0, Value.slice none 0 0, Value.slice none 0 0, Value.int .i64 0] : Array Value)[q]?) := hRc
    have HRz : Hid (∀ q, W3.frozen? ⟨x.heap.size + 1 + 1, q, none⟩ = false) := hRz
    have hRG : x.heap.size + 1 + 1 < G := by omega
    have HNG : Hid (∀ q, (Value.slice a n k).ownBlock = some q → q ≠ G ∧ x.heap.size + 1 + 1 < q) := fun q hq => by have := hrow.lt hq; omega
    have HYx : Hid (x.heap.size ≤ Y.heap.size + 1) := by show _ ≤ _; omega
    rw [hG] at HYx
    rw [hG] at y0 y1 y2 y3 HE ⊢
    clear ho hW3 hRc hRz hrow hrow3 hb1 t0 t1 t2 t3 tz tz0 tz1 tz2 tz3 sA sB e0 e1 e3 e5 e6 a0 a1 a3 a5 b3 HF HCA HCB
    have HI0 : Hid (RpI W3 G W3.heap.size [] rs 0 (.slice none 0 0) W3) := ⟨y2, VRow.nil _ _ _, ⟨by simp, fun j u d hu => by simp at hu⟩, fun j b o n c hj => by simp at hj, Off.refl _ _, hGz, fun q _ => rfl, by rw [List.take_zero]; exact Rws.nil _ _⟩
    have HGz : Hid ((∀ q, W3.frozen? ⟨G, q, none⟩ = false) ∧ G < W3.heap.size ∧ W3.cell? ⟨G, 0, none⟩ = some (.int .u64 g0) ∧ W3.cell? ⟨G, 1, none⟩ = some (.slice a n k) ∧ W3.cell? ⟨G, 3, none⟩ = some (.int .i64 ((sz1 : Int) + sz0 - wh0))) := ⟨hGz, cell_lt y0, y0, y1, y3⟩
    have HRx : Hid ((∀ q v, (#[Value.int .u64 0, Value.slice none 0 0, Value.slice none 0 0, Value.int .i64 0] : Array Value)[q]? = some v → W3.cell? ⟨x.heap.size + 1 + 1, q, none⟩ = some v) ∧ (∀ q, W3.frozen? ⟨x.heap.size + 1 + 1, q, none⟩ = false) ∧ x.heap.size + 1 + 1 < W3.heap.size ∧ x.heap.size + 1 + 1 < G) := ⟨fun q v h => (HRc.out q).trans h, HRz.out, cell_lt r0, hRG⟩
    clear y0 y1 y2 y3 r0 r1 r2 r3 z0 z1 z2 z3 hGz HRc HRz hRG
    go_wp2_with fail
    go_loopw [7, 25] (fun _ t25 wx => ∃ (j : Nat) (v2 : Value) (vs : List Value), j ≤ rn0 ∧ t25 = .int .i64 j ∧ Hid (RpI W3 G W3.heap.size vs rs j v2 wx)) (fun _ t25 _ => rn0 - (intOf t25).toNat)
    case atStart => exact ⟨0, .slice none 0 0, [], by omega, rfl, HI0.out⟩
    case round =>
      obtain ⟨j, v2, vs, hj, rfl, HK⟩ := hrel
      by_cases hlt : j < rn0
      · have hlti : (j : Int) < rn0 := by omega
        obtain ⟨u, hu⟩ : ∃ u, us[j]? = some u := ⟨_, List.getElem?_eq_getElem (by have := HSrc.out.2.2.1; omega)⟩
        obtain ⟨d, hd⟩ : ∃ d, rs[j]? = some d := ⟨_, List.getElem?_eq_getElem (by have := HSrc.out.2.1.1; have := HSrc.out.2.2.1; omega)⟩
        obtain ⟨ua, uc, rfl, hub, hun⟩ := HSrc.out.2.1.2 j u d hu hd
        obtain ⟨rb, rfl⟩ : ∃ rb, ra0 = some ⟨rb, 0, none⟩ := by
          rcases HSrc.out.1.form with ⟨e, _⟩ | ⟨g, cap, e, _⟩
          · cases e; omega
          · cases e; exact ⟨g, rfl⟩
        have hxW : Below x.heap.size x W3 := HE.out.2
        have hoff : Off (fun q => q = G) W3 wr := HK.out.of
        have hGx : x.heap.size < G := by have := HRx.out.2.2.2; omega
        have hxw : Below x.heap.size x wr := hxW.trans (hoff.below hxW.size (fun q e => by omega))
        have c1 : wr.cell? ⟨rb, j, none⟩ = some (.slice ua d.length uc) := below_cell hxw (HSrc.out.1.slot hu)
        have c2 := HK.out.c2
        have HCl : Hid (∀ z, Below wr.heap.size wr z → Calls Tryz.prog 66 #[.slice ua d.length uc] z fun e w' => ∃ a' n' k', e = .returned (.slice a' n' k') ∧ Hid (Row w' wr.heap.size (.slice a' n' k') d) ∧ Below wr.heap.size wr w' ∧ w'.cell? ⟨G, 2, none⟩ = some v2) := fun z hz => (clone_any z (hub.below (below_then hxw hz)) hun (by have := HSrc.out.2.2.2.2 d (List.mem_of_getElem? hd); omega)).mono fun e w' ⟨a', n', k', he, hr, hb⟩ => ⟨a', n', k', he, hr.base hz.size, below_then hz hb, below_cell (below_then hz hb) HK.out.c2⟩
        have hB0 : Below wr.heap.size wr wr := Below.refl _ _
        have HGW : Hid (G < W3.heap.size ∧ W3.heap.size ≤ wr.heap.size) := ⟨HGz.out.2.1, hoff.size⟩
        have HZ : Hid (∀ q, wr.frozen? ⟨G, q, none⟩ = false) := HK.out.fz
        have HVr : Hid (VRow wr W3.heap.size 22 v2 vs ∧ vs.length ≤ 16777216) := ⟨HK.out.vr, by have := HK.out.pc.1; simp at this; omega⟩
        have Hd : Hid (rs[j]? = some d) := hd
        clear hub hun hu hd hxW hoff hxw
        go_wp2_with fail
        go_region_law (first | (refine step_vpush (B := W3.heap.size) rfl (.tmp 30) (.tmp 33) rfl rfl rfl (HVr.out.1.off (Off.of_below (P := fun _ => False) (below_then hby ((Below.refl _ _).alloc (Nat.le_refl _) _))) (fun _ _ => id)) (one_first _ _ _) rfl HVr.out.2 ?_ ?_; exact Nat.le_trans HGW.out.2 (below_then hby ((Below.refl _ _).alloc (Nat.le_refl _) _)).size; intro a2 c2' w9 HV9 HO9; obtain ⟨kc, kz⟩ := rp_keep HGW.out.1 HVr.out.1 HO9 (below_then hby ((Below.refl _ _).alloc (Nat.le_refl _) _)) (Nat.lt_of_lt_of_le HGW.out.1 HGW.out.2); have g3 := (kc 2).trans c2; have g4 := (kz 2).trans (HZ.out 2); clear kc kz) | (go_simp; go_at_call 66; refine (HCl.out _ ?_).mono ?_; (first | assumption | exact Below.drew (by assumption)); rintro e wy ⟨a', n', k', rfl, HRow, hby, g2⟩; have g5 : ∀ o, (wy.alloc o).cell? ⟨G, 2, none⟩ = some v2 := fun o => (World.cell?_alloc_lt _ _ ⟨G, 2, none⟩ (cell_lt g2)).trans g2; go_wp2_with fail))
        all_goals
          have HF : Hid (RpI W3 G W3.heap.size (vs ++ [.slice a' n' k']) rs (j + 1) (.slice a2 (vs.length + 1) c2') (w9.setCell ⟨G, 2, none⟩ (.slice a2 (vs.length + 1) c2'))) := HK.out.push HGW.out.1 Hd.out HRow.out hby HV9.out HO9
          go_wp2_with fail
          go_roundw
          case rel => exact ⟨j + 1, _, _, by omega, by go_num, HF.out⟩
          case measure => simp [intOf]; omega
      · have hlti : ¬ (j : Int) < rn0 := by omega
        have hjn : j = rn0 := by omega
        obtain ⟨va, vc, hv2, _⟩ := HK.out.vr.isSlice
        subst hv2
        obtain ⟨hgz, hGl, y0', y1', y3'⟩ := HGz.out
        have y0 : wr.cell? ⟨G, 0, none⟩ = some (.int .u64 g0) := (HK.out.cg 0 (by omega)).trans y0'
        have y1 : wr.cell? ⟨G, 1, none⟩ = some (.slice a n k) := (HK.out.cg 1 (by omega)).trans y1'
        have y2 := HK.out.c2
        have y3 : wr.cell? ⟨G, 3, none⟩ = some (.int .i64 ((sz1 : Int) + sz0 - wh0)) := (HK.out.cg 3 (by omega)).trans y3'
        obtain ⟨hRc, hRz, hRl, hRg⟩ := HRx.out
        have hRn : ¬ x.heap.size + 1 + 1 = G := by omega
        have r0 : wr.cell? ⟨x.heap.size + 1 + 1, 0, none⟩ = some (.int .u64 0) := off_cell HK.out.of (hRc 0 _ rfl) hRn
        have r1 : wr.cell? ⟨x.heap.size + 1 + 1, 1, none⟩ = some (.slice none 0 0) := off_cell HK.out.of (hRc 1 _ rfl) hRn
        have r2 : wr.cell? ⟨x.heap.size + 1 + 1, 2, none⟩ = some (.slice none 0 0) := off_cell HK.out.of (hRc 2 _ rfl) hRn
        have r3 : wr.cell? ⟨x.heap.size + 1 + 1, 3, none⟩ = some (.int .i64 0) := off_cell HK.out.of (hRc 3 _ rfl) hRn
        have hz : ∀ q, wr.frozen? ⟨x.heap.size + 1 + 1, q, none⟩ = false := fun q => (HK.out.of.frozen (p := ⟨x.heap.size + 1 + 1, q, none⟩) hRl hRn).trans (hRz q)
        have z0 := hz 0
        have z1 := hz 1
        have z2 := hz 2
        have z3 := hz 3
        obtain ⟨ho, q0, q1, q2, q3⟩ := set_four r0 r1 r2 r3 (.int .u64 g0) (.slice a n k) (.slice va vs.length vc) (.int .i64 ((sz1 : Int) + sz0 - wh0))
        have HFin : Hid (Row ((((wr.setCell ⟨x.heap.size + 1 + 1, 0, none⟩ (.int .u64 g0)).setCell ⟨x.heap.size + 1 + 1, 1, none⟩ (.slice a n k)).setCell ⟨x.heap.size + 1 + 1, 2, none⟩ (.slice va vs.length vc)).setCell ⟨x.heap.size + 1 + 1, 3, none⟩ (.int .i64 ((sz1 : Int) + sz0 - wh0))) x.heap.size (.slice a n k) sn ∧ VRow ((((wr.setCell ⟨x.heap.size + 1 + 1, 0, none⟩ (.int .u64 g0)).setCell ⟨x.heap.size + 1 + 1, 1, none⟩ (.slice a n k)).setCell ⟨x.heap.size + 1 + 1, 2, none⟩ (.slice va vs.length vc)).setCell ⟨x.heap.size + 1 + 1, 3, none⟩ (.int .i64 ((sz1 : Int) + sz0 - wh0))) x.heap.size 22 (.slice va vs.length vc) vs ∧ ((Pcs ((((wr.setCell ⟨x.heap.size + 1 + 1, 0, none⟩ (.int .u64 g0)).setCell ⟨x.heap.size + 1 + 1, 1, none⟩ (.slice a n k)).setCell ⟨x.heap.size + 1 + 1, 2, none⟩ (.slice va vs.length vc)).setCell ⟨x.heap.size + 1 + 1, 3, none⟩ (.int .i64 ((sz1 : Int) + sz0 - wh0))) vs rs ∧ OwnQ ((((wr.setCell ⟨x.heap.size + 1 + 1, 0, none⟩ (.int .u64 g0)).setCell ⟨x.heap.size + 1 + 1, 1, none⟩ (.slice a n k)).setCell ⟨x.heap.size + 1 + 1, 2, none⟩ (.slice va vs.length vc)).setCell ⟨x.heap.size + 1 + 1, 3, none⟩ (.int .i64 ((sz1 : Int) + sz0 - wh0))) x.heap.size (.slice a n k) (.slice va vs.length vc) sn vs rs) ∧ PFar x.heap.size vs) ∧ Below x.heap.size x ((((wr.setCell ⟨x.heap.size + 1 + 1, 0, none⟩ (.int .u64 g0)).setCell ⟨x.heap.size + 1 + 1, 1, none⟩ (.slice a n k)).setCell ⟨x.heap.size + 1 + 1, 2, none⟩ (.slice va vs.length vc)).setCell ⟨x.heap.size + 1 + 1, 3, none⟩ (.int .i64 ((sz1 : Int) + sz0 - wh0)))) := by
          have hbw : Below x.heap.size x wr := HE.out.2.trans (HK.out.of.below HE.out.2.size (fun q e => by omega))
          refine ⟨((HE.out.1.off HK.out.of (fun q hq e => (HNG.out q hq).1 e)).off ho (fun q hq e => by have := (HNG.out q hq).2; omega)).base HYx.out, (HK.out.vr.off ho (fun q hq e => by have := (HK.out.vr.lt hq).1; omega)).low (by omega), ⟨⟨?_, ⟨W3.heap.size, HE.out.2.size, ((HE.out.1.off HK.out.of (fun q hq e => (HNG.out q hq).1 e)).off ho (fun q hq e => by have := (HNG.out q hq).2; omega)).base HYx.out, (HK.out.vr.off ho (fun q hq e => by have := (HK.out.vr.lt hq).1; omega)).low (by omega), by
            have h9 := HK.out.rw
            rw [List.take_of_length_le (by have := HSrc.out.2.1.1; have := HSrc.out.2.2.1; omega)] at h9
            exact h9.off ho (fun i u hu q hq e => by have := (h9.lt hu hq).1; omega), fun q hq => (HE.out.1.lt hq).2⟩⟩, fun i b o n c hi => by have := (HK.out.ap i b o n c hi).2.1; omega⟩, hbw.trans (ho.below hbw.size (fun q e => by omega))⟩
          have hpc := HK.out.pc
          rw [List.take_of_length_le (by have := HSrc.out.2.1.1; have := HSrc.out.2.2.1; omega)] at hpc
          refine ⟨hpc.1, fun i u d hu hd => ?_⟩
          obtain ⟨ua, uc, e, hb, hn⟩ := hpc.2 i u d hu hd
          refine ⟨ua, uc, e, byts_off hb ho (fun b o _ e' g => ?_), hn⟩
          subst e
          subst e'
          have := (HK.out.ap i b o _ _ hu).2.1
          omega
        clear ho hz hRc hRz
        go_wp2_with fail
        exact bodyPost_ret (v := .agg #[.int .u64 g0, .slice a n k, .slice va vs.length vc, .int .i64 ((sz1 : Int) + sz0 - wh0)]) (by simp [results, Tryz.results26, go_sem, q0, q1, q2, q3]) rfl ⟨a, n, k, _, vs, rfl, HFin.out⟩
end Go.Proofs.YthnpckmgnompiaaGreatDoor
