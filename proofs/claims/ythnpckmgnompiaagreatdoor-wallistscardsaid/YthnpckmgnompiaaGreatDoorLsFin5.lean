import Derived.Test.YthnpckmgnompiaaGreatDoorLsFin3
/-
  The law WalLists: how its last part begins; Open in it; Alone in it.
-/
namespace Go.Proofs.YthnpckmgnompiaaGreatDoor
open Go.RowKit Go.BigFrame

section
variable {w wx : World} {K Wb X : Nat} {cs : Nat → Option Value} {sn : List Int} {rs : List (List Int)} {v : Value} {vs : List Value} {ρ : Nat → Nat} {es : List Ent} {rv : Value} {ls : List Value}
theorem wa_open2 (h : WaI w K Wb X cs sn rs v vs ρ es rv ls wx) (hH : Halves w) :
    Calls Tryz.prog 7 #[.pointer (some ⟨K, 0, none⟩)] wx fun e w' => ∃ (L : Nat) (a : Option Addr) (k : Nat) (al : Option Addr) (c : Nat) (us : List Value), e = .returned (.tuple #[.pointer (some ⟨L, 0, none⟩), .agg #[.int .u64 1, .slice a sn.length k, .slice al rs.length c, .int .i64 0], .nilIface]) ∧ WaJ w K Wb X cs sn rs v vs ρ es rv ls (.slice a sn.length k) (.slice al rs.length c) us w' ∧ Row w' w.heap.size (.slice a sn.length k) sn ∧ (∀ q, (Value.slice a sn.length k).ownBlock = some q → ρ q = 0 ∧ Apt Wb v vs rv ls q) ∧ ∀ (j : Nat) (u : Value), us[j]? = some u → ∀ q, u.ownBlock = some q → (Value.slice a sn.length k).ownBlock ≠ some q := by
  refine (wa_open h hH).mono ?_
  rintro e w' ⟨L, a, n, k, v2, us, D, he, hI, _, hpc, ⟨C, hC, hsv, hlv, hur, hsC⟩, hD, v0, v1, s, na, ns, nc, hd, hs, hfa, hfD⟩
  have hn := hsv.len
  obtain rfl : n = sn.length := hn.symm
  obtain ⟨al, c, e2, _⟩ := hlv.isSlice
  rw [hpc.1] at e2
  subst e2
  have hb := h.bl.size
  have ap : ∀ q, D ≤ q → ρ q = 0 ∧ Apt Wb v vs rv ls q := fun q hq => h.apt (by omega)
  refine ⟨L, a, k, al, c, us, he, ⟨hI, ⟨v0, v1, s, na, ns, nc, hd, hs, fun q hq => ⟨(hfa q hq).1, (hfa q hq).2, fun e => ?_, fun j u hu e => ?_, fun e => ?_⟩⟩, hlv.low (by omega), ⟨hur.len, fun j u d hu hd => (hur.row j u d hu hd).base (by omega), hur.inj⟩, fun q e => ?_⟩, hsv.base (by omega), fun q e => ap q (hsv.lt e).1, fun j u hu q e e' => ?_⟩
  · have := (hlv.lt e).1; have := hfD q hq; omega
  · have := (hur.lt hu e).1; have := hfD q hq; omega
  · have := (hsv.lt e).1; have := hfD q hq; omega
  · rcases e with e | ⟨j, u, hu, e⟩
    · exact ap q (hlv.lt e).1
    · exact ap q (by have := (hur.lt hu e).1; omega)
  · have := (hur.lt hu e).1; have := hsC q e'; omega
end
theorem wa_start {w y : World} {K L R : Nat} {sn : List Int} {rs : List (List Int)} {v c1 : Value} {vs : List Value} (h : WlI w K L R sn rs rs v vs y) :
    WaI w K y.heap.size (y.heap.size + 1) (fun j => (#[.int .u64 1, c1, v, .int .i64 0] : Array Value)[j]?) sn rs v vs (fun k => if k = y.heap.size + 1 then 1 else 0) [] (.slice none 0 0) [] ((y.alloc (.cells #[.int .u64 1, c1, v, .int .i64 0] 33)).alloc (.cells #[.slice none 0 0, .slice none 0 0, .slice none 0 0, .slice none 0 0, .slice none 0 0, .slice none 0 0, .slice none 0 0, .slice none 0 0, .slice none 0 0, .slice none 0 0, .slice none 0 0, .slice none 0 0, .slice none 0 0, .slice none 0 0, .slice none 0 0, .slice none 0 0, .slice none 0 0, .slice none 0 0, .slice none 0 0, .slice none 0 0, .slice none 0 0, .slice none 0 0, .slice none 0 0] 57)) := by
  obtain ⟨v0, v1, na, ns, nc, s, wt, hl, h1, h2, h3, h4⟩ := h.lg
  have bA : Below y.heap.size y ((y.alloc (.cells #[.int .u64 1, c1, v, .int .i64 0] 33)).alloc (.cells #[.slice none 0 0, .slice none 0 0, .slice none 0 0, .slice none 0 0, .slice none 0 0, .slice none 0 0, .slice none 0 0, .slice none 0 0, .slice none 0 0, .slice none 0 0, .slice none 0 0, .slice none 0 0, .slice none 0 0, .slice none 0 0, .slice none 0 0, .slice none 0 0, .slice none 0 0, .slice none 0 0, .slice none 0 0, .slice none 0 0, .slice none 0 0, .slice none 0 0, .slice none 0 0] 57)) := ((Below.refl _ _).alloc (Nat.le_refl _) _).alloc (by simp) _
  have hw := h.bl.size
  have hc : ∀ q, ((y.alloc (.cells #[.int .u64 1, c1, v, .int .i64 0] 33)).alloc (.cells #[.slice none 0 0, .slice none 0 0, .slice none 0 0, .slice none 0 0, .slice none 0 0, .slice none 0 0, .slice none 0 0, .slice none 0 0, .slice none 0 0, .slice none 0 0, .slice none 0 0, .slice none 0 0, .slice none 0 0, .slice none 0 0, .slice none 0 0, .slice none 0 0, .slice none 0 0, .slice none 0 0, .slice none 0 0, .slice none 0 0, .slice none 0 0, .slice none 0 0, .slice none 0 0] 57)).cell? ⟨y.heap.size + 1, q, none⟩ = (#[.slice none 0 0, .slice none 0 0, .slice none 0 0, .slice none 0 0, .slice none 0 0, .slice none 0 0, .slice none 0 0, .slice none 0 0, .slice none 0 0, .slice none 0 0, .slice none 0 0, .slice none 0 0, .slice none 0 0, .slice none 0 0, .slice none 0 0, .slice none 0 0, .slice none 0 0, .slice none 0 0, .slice none 0 0, .slice none 0 0, .slice none 0 0, .slice none 0 0, .slice none 0 0] : Array Value)[q]? := fun q => by
    have := World.cell?_alloc_new (y.alloc (.cells #[.int .u64 1, c1, v, .int .i64 0] 33)) #[.slice none 0 0, .slice none 0 0, .slice none 0 0, .slice none 0 0, .slice none 0 0, .slice none 0 0, .slice none 0 0, .slice none 0 0, .slice none 0 0, .slice none 0 0, .slice none 0 0, .slice none 0 0, .slice none 0 0, .slice none 0 0, .slice none 0 0, .slice none 0 0, .slice none 0 0, .slice none 0 0, .slice none 0 0, .slice none 0 0, .slice none 0 0, .slice none 0 0, .slice none 0 0] 57 q
    rw [World.size_alloc] at this
    exact this
  have hf : ∀ q, ((y.alloc (.cells #[.int .u64 1, c1, v, .int .i64 0] 33)).alloc (.cells #[.slice none 0 0, .slice none 0 0, .slice none 0 0, .slice none 0 0, .slice none 0 0, .slice none 0 0, .slice none 0 0, .slice none 0 0, .slice none 0 0, .slice none 0 0, .slice none 0 0, .slice none 0 0, .slice none 0 0, .slice none 0 0, .slice none 0 0, .slice none 0 0, .slice none 0 0, .slice none 0 0, .slice none 0 0, .slice none 0 0, .slice none 0 0, .slice none 0 0, .slice none 0 0] 57)).frozen? ⟨y.heap.size + 1, q, none⟩ = false := fun q => by
    have := World.frozen?_alloc_new (y.alloc (.cells #[.int .u64 1, c1, v, .int .i64 0] 33)) #[.slice none 0 0, .slice none 0 0, .slice none 0 0, .slice none 0 0, .slice none 0 0, .slice none 0 0, .slice none 0 0, .slice none 0 0, .slice none 0 0, .slice none 0 0, .slice none 0 0, .slice none 0 0, .slice none 0 0, .slice none 0 0, .slice none 0 0, .slice none 0 0, .slice none 0 0, .slice none 0 0, .slice none 0 0, .slice none 0 0, .slice none 0 0, .slice none 0 0, .slice none 0 0] 57 q
    rw [World.size_alloc] at this
    exact this
  have hW : ∀ j, ((y.alloc (.cells #[.int .u64 1, c1, v, .int .i64 0] 33)).alloc (.cells #[.slice none 0 0, .slice none 0 0, .slice none 0 0, .slice none 0 0, .slice none 0 0, .slice none 0 0, .slice none 0 0, .slice none 0 0, .slice none 0 0, .slice none 0 0, .slice none 0 0, .slice none 0 0, .slice none 0 0, .slice none 0 0, .slice none 0 0, .slice none 0 0, .slice none 0 0, .slice none 0 0, .slice none 0 0, .slice none 0 0, .slice none 0 0, .slice none 0 0, .slice none 0 0] 57)).cell? ⟨y.heap.size, j, none⟩ = (#[.int .u64 1, c1, v, .int .i64 0] : Array Value)[j]? := fun j => by
    rw [World.cell?_alloc_lt _ _ ⟨y.heap.size, j, none⟩ (by simp)]
    exact World.cell?_alloc_new _ _ _ _
  have hs : ((y.alloc (.cells #[.int .u64 1, c1, v, .int .i64 0] 33)).alloc (.cells #[.slice none 0 0, .slice none 0 0, .slice none 0 0, .slice none 0 0, .slice none 0 0, .slice none 0 0, .slice none 0 0, .slice none 0 0, .slice none 0 0, .slice none 0 0, .slice none 0 0, .slice none 0 0, .slice none 0 0, .slice none 0 0, .slice none 0 0, .slice none 0 0, .slice none 0 0, .slice none 0 0, .slice none 0 0, .slice none 0 0, .slice none 0 0, .slice none 0 0, .slice none 0 0] 57)).heap.size = y.heap.size + 1 + 1 := by simp
  have hnil : ∀ q, q < 23 → (#[.slice none 0 0, .slice none 0 0, .slice none 0 0, .slice none 0 0, .slice none 0 0, .slice none 0 0, .slice none 0 0, .slice none 0 0, .slice none 0 0, .slice none 0 0, .slice none 0 0, .slice none 0 0, .slice none 0 0, .slice none 0 0, .slice none 0 0, .slice none 0 0, .slice none 0 0, .slice none 0 0, .slice none 0 0, .slice none 0 0, .slice none 0 0, .slice none 0 0, .slice none 0 0] : Array Value)[q]? = some (.slice none 0 0) := fun q hq => by
    rcases q with _ | q; rfl
    iterate 22 (rcases q with _ | q; rfl)
    omega
  generalize ((y.alloc (.cells #[.int .u64 1, c1, v, .int .i64 0] 33)).alloc (.cells #[.slice none 0 0, .slice none 0 0, .slice none 0 0, .slice none 0 0, .slice none 0 0, .slice none 0 0, .slice none 0 0, .slice none 0 0, .slice none 0 0, .slice none 0 0, .slice none 0 0, .slice none 0 0, .slice none 0 0, .slice none 0 0, .slice none 0 0, .slice none 0 0, .slice none 0 0, .slice none 0 0, .slice none 0 0, .slice none 0 0, .slice none 0 0, .slice none 0 0, .slice none 0 0] 57)) = z at *
  have lt0 : ∀ q, q < y.heap.size → (if q = y.heap.size + 1 then 1 else 0) = 0 := fun q hq => if_neg (by omega)
  refine ⟨⟨v0, v1, s, na, ns, nc, hl.d.under bA, h3, fun q hq => ⟨lt0 q (hl.d.foot_lt hq).2, by have := (hl.d.foot_lt hq).2; omega, (h4 q hq).2.1, (h4 q hq).2.2, (fun e => by cases e), (fun l hl => by cases hl)⟩⟩, h.bl.trans (bA.mono hw), ⟨hw, by omega, if_neg (by omega)⟩, hW, h.vr.keep fun g hg => bA.block g (h.vr.lt hg).2, fun q e => lt0 q (h.vr.lt e).2, h.rw.off (Off.of_below (P := fun _ => False) bA) (fun _ _ _ _ _ => id), fun j u hu q e => lt0 q (h.rw.lt hu e).2, ⟨_, _, Bk.empty (fun q hq => by rw [hc q]; exact hnil q (by omega)) hf (by omega)⟩, (fun i e he => by simp at he), fun q h1 h2 => by rw [hc q]; exact hnil q (by omega), by rw [hc 22]; exact hnil 22 (by omega), VRow.nil _ _ _, (fun q e => by cases e), (fun l hl => by cases hl), (fun l hl => by cases hl), h.gd, fun q hq => ?_⟩
  rcases Nat.lt_or_ge q y.heap.size with p | p
  · exact absurd (lt0 q p) hq
  · omega
end Go.Proofs.YthnpckmgnompiaaGreatDoor

/-
  The law WalLists: Alone in its last part; the last Open.
-/
namespace Go.Proofs.YthnpckmgnompiaaGreatDoor
open Go.RowKit Go.BigFrame

structure WaE (w : World) (K Wb : Nat) (cs : Nat → Option Value) (sn : List Int) (rs : List (List Int)) (v : Value) (vs : List Value) (wx : World) : Prop where
  dk : ∃ v0 v1 s na ns nc, DskS wx w.heap.size K v0 v1 (sgL sn rs s na ns nc) ∧ s ≤ 30 + sn.length + sizes rs ∧ ∀ q, Foot K v0 v1 q → q ≠ Wb ∧ v.ownBlock ≠ some q ∧ ∀ (j : Nat) (u : Value), vs[j]? = some u → u.ownBlock ≠ some q
  bl : Below w.heap.size w wx
  wl : Wb < wx.heap.size
  wc : ∀ j, wx.cell? ⟨Wb, j, none⟩ = cs j
  vr : VRow wx w.heap.size 22 v vs
  rw : Rws wx w.heap.size vs rs
  gd : LlG sn rs
section
variable {w wx : World} {K Wb X : Nat} {cs : Nat → Option Value} {sn : List Int} {rs : List (List Int)} {v : Value} {vs : List Value} {ρ : Nat → Nat} {es : List Ent} {rv : Value}
theorem wa_alone {ap aq : Option Addr} {cp cq : Nat} (h : WaI w K Wb X cs sn rs v vs ρ es rv [.slice ap rs.length cp, .slice aq rs.length cq] wx) (hpq : ∀ q, (Value.slice ap rs.length cp).ownBlock = some q → (Value.slice aq rs.length cq).ownBlock ≠ some q) (hm : es.length ≤ 67108864) :
    Calls Tryz.prog 12 #[.pointer (some ⟨X, 0, none⟩)] wx fun e w' => e = .returned (.bool true) ∧ WaE w K Wb cs sn rs v vs w' := by
  obtain ⟨v0, v1, s, na, ns, nc, hd, hs, hf⟩ := h.dk
  obtain ⟨vb, vw, hb⟩ := h.bk
  obtain ⟨usP, hP⟩ := h.lr _ (List.mem_cons_self ..)
  obtain ⟨usQ, hQ⟩ := h.lr (.slice aq rs.length cq) (by simp)
  have hrs : rs.length ≤ 16777216 := by have := len_sizes rs; have := h.gd.sz; omega
  obtain ⟨ar, cr, e1, har⟩ := h.rr.isSlice
  obtain ⟨g, rfl⟩ := har (by simp)
  have e2 : rv = .slice (some ⟨g, 0, none⟩) 2 cr := e1
  subst e2
  have zP := h.lz (.slice ap rs.length cp) (by simp)
  have zQ := h.lz (.slice aq rs.length cq) (by simp)
  refine (lsAlone hb (fun i e he => ⟨(h.en i e he).1, by have := (h.en i e he).2; omega⟩) (by omega) h.ba h.c22 ⟨h.rr, hP, hQ, fun _ _ ht => absurd ht (Nat.not_lt_zero _), fun _ _ ht => absurd ht (Nat.not_lt_zero _), Off.refl _ _, hpq, h.bl.size⟩ hrs hrs (fun q e => ?_)).mono ?_
  · rcases e with e | e | e
    · subst e; exact (h.rvz q rfl).1
    · exact (zP q e).1
    · exact (zQ q e).1
  rintro e w' ⟨he, o⟩
  have np : ∀ q, ρ q = 0 → (Value.slice ap rs.length cp).ownBlock ≠ some q → (Value.slice aq rs.length cq).ownBlock ≠ some q → ¬ (ρ q = 1 ∨ (∃ j, ρ q = 6 + 2 * j) ∨ (Value.slice ap rs.length cp).ownBlock = some q ∨ (Value.slice aq rs.length cq).ownBlock = some q) := fun q h0 h1 h2 p => by
    rcases p with p | ⟨j, p⟩ | p | p
    · omega
    · omega
    · exact h1 p
    · exact h2 p
  refine ⟨he, ⟨v0, v1, s, na, ns, nc, hd.off o (fun q hq => np q (hf q hq).1 ((hf q hq).2.2.2.2.2 _ (by simp)) ((hf q hq).2.2.2.2.2 _ (by simp))), hs, fun q hq => ⟨(hf q hq).2.1, (hf q hq).2.2.1, (hf q hq).2.2.2.1⟩⟩, h.bl.trans (o.below h.bl.size (fun q p => ?_)), Nat.lt_of_lt_of_le h.wl.2.1 o.size, fun j => (o.cell (p := ⟨Wb, j, none⟩) h.wl.2.1 (np Wb h.wl.2.2 (fun e => (zP Wb e).2.1 rfl) (fun e => (zQ Wb e).2.1 rfl))).trans (h.wc j), h.vr.off o (fun q e => np q (h.vz q e) (fun e' => (zP q e').2.2 e) (fun e' => (zQ q e').2.2 e)), h.rw.off o (fun j u hu q e => ?_), h.gd⟩
  · rcases p with p | ⟨j, p⟩ | p | p
    · exact h.lo q (by omega)
    · exact h.lo q (by omega)
    · exact (hP.lt p).1
    · exact (hQ.lt p).1
  · obtain ⟨d, _, hr⟩ := h.rw.at_ hu
    exact np q (h.rz j u hu q e) (row_ne hr hP q e) (row_ne hr hQ q e)
theorem wa_last (h : WaE w K Wb cs sn rs v vs wx) (hH : Halves w) :
    Calls Tryz.prog 7 #[.pointer (some ⟨K, 0, none⟩)] wx fun e w' => ∃ (L : Nat) (a : Option Addr) (k : Nat) (al : Option Addr) (c : Nat) (us : List Value), e = .returned (.tuple #[.pointer (some ⟨L, 0, none⟩), .agg #[.int .u64 1, .slice a sn.length k, .slice al rs.length c, .int .i64 0], .nilIface]) ∧ Row w' w.heap.size (.slice a sn.length k) sn ∧ VRow w' w.heap.size 22 (.slice al rs.length c) us ∧ Pcs w' us rs ∧ Below w.heap.size w w' ∧ Wb < w'.heap.size ∧ (∀ j, w'.cell? ⟨Wb, j, none⟩ = cs j) ∧ VRow w' w.heap.size 22 v vs ∧ Pcs w' vs rs := by
  obtain ⟨v0, v1, s, na, ns, nc, hd, hs, hf⟩ := h.dk
  refine (ll_open hd h.bl.size (hH.under h.bl) h.gd hs).mono ?_
  rintro e w' ⟨u0, u1, na', ns', nc', L, a, n, k, v2, us, hst, he, _, hrow, hvr, hpc, _, _⟩
  have hn := hrow.len
  obtain rfl : n = sn.length := hn.symm
  obtain ⟨al, c, e2, _⟩ := hvr.isSlice
  rw [hpc.1] at e2
  subst e2
  have hb := h.bl.size
  exact ⟨L, a, k, al, c, us, he, hrow.base hb, hvr.low hb, hpc, h.bl.trans (hst.off.below hb (fun q p => (hd.foot_lt p).1)), Nat.lt_of_lt_of_le h.wl hst.off.size, fun j => (hst.off.cell (p := ⟨Wb, j, none⟩) h.wl (fun p => (hf Wb p).1 rfl)).trans (h.wc j), h.vr.off hst.off (fun q e p => (hf q p).2.1 e), (h.rw.off hst.off (fun j u hu q e p => (hf q p).2.2 j u hu e)).pcs⟩
end
end Go.Proofs.YthnpckmgnompiaaGreatDoor
