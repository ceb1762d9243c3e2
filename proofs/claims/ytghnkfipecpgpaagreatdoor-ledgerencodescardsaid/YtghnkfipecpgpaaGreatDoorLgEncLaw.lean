/-
  LedgerEncodes, walked.
-/
import Derived.Test.YtghnkfipecpgpaaGreatDoorLgLike
namespace Go.Proofs.YtghnkfipecpgpaaGreatDoor
open Go.RowKit

theorem encode_cp (r : Rec) (a1 : Option Addr) (c1 : Nat) (a2 : Option Addr) (c2 : Nat) (a3 : Option Addr) (c3 : Nat) (w : World) (hV : PVx w) (hl : LieR w (r.wi a1 c1 a2 c2 a3 c3)) : Calls Tryz.prog 6 #[.agg #[.int .i64 r.kd, .string r.ct, .slice a1 r.tn c1, .bool r.e, .int .i64 r.a, .int .i64 r.p, .int .i64 r.nu, .int .i64 r.tk, .int .i64 r.st, .string r.cd, .slice a2 r.cn c2, .slice a3 r.an c3]] w (EncQ r w) := by
  have h := encode_any (r.wi a1 c1 a2 c2 a3 c3) w hV hl.lowN
  unfold EncQ at h ⊢
  rw [wr_wi, enc_wi] at h
  exact h
/-- The law's own: the record's box, its copy's box, the lists of both. -/
structure EL (r : Rec) (a1 : Option Addr) (c1 : Nat) (a2 : Option Addr) (c2 : Nat) (a3 : Option Addr) (c3 : Nat) (w : World) (rb ib : Nat) (z : World) : Prop where
  b : Below w.heap.size w z
  x : Box z rb (#[.int .i64 r.kd, .string r.ct, .slice r.tp r.tn r.tc, .bool r.e, .int .i64 r.a, .int .i64 r.p, .int .i64 r.nu, .int .i64 r.tk, .int .i64 r.st, .string r.cd, .slice r.cp r.cn r.cc, .slice r.ap r.an r.ac])
  y : Box z ib (#[.int .i64 r.kd, .string r.ct, .slice a1 r.tn c1, .bool r.e, .int .i64 r.a, .int .i64 r.p, .int .i64 r.nu, .int .i64 r.tk, .int .i64 r.st, .string r.cd, .slice a2 r.cn c2, .slice a3 r.an c3])
  l : LieR z (r.wi a1 c1 a2 c2 a3 c3)
theorem EL.below {r : Rec} {a1 : Option Addr} {c1 : Nat} {a2 : Option Addr} {c2 : Nat} {a3 : Option Addr} {c3 : Nat} {w : World} {rb ib : Nat} {z z' : World} (h : EL r a1 c1 a2 c2 a3 c3 w rb ib z) (hb : Below z.heap.size z z') : EL r a1 c1 a2 c2 a3 c3 w rb ib z' := ⟨below_then h.b hb, h.x.below hb, h.y.below hb, h.l.below hb⟩
set_option maxRecDepth 100000 in
set_option maxHeartbeats 4000000 in
theorem encodes_law (r : Rec) (w : World) (hE : ErrType w) (hV : PVx w) (hl : LieR w r) (h1 : r.tn ≤ 140737488355328) (h2 : r.cn ≤ 140737488355328) (h3 : r.an ≤ 140737488355328) :
    Calls Tryz.prog 3 #[.agg #[.int .i64 r.kd, .string r.ct, .slice r.tp r.tn r.tc, .bool r.e, .int .i64 r.a, .int .i64 r.p, .int .i64 r.nu, .int .i64 r.tk, .int .i64 r.st, .string r.cd, .slice r.cp r.cn r.cc, .slice r.ap r.an r.ac]] w fun e w' => e = .returned (.bool true) ∧ Below w.heap.size w w' := by
  have bv := (Below.refl w.heap.size w).alloc (Nat.le_refl _) (.cells (#[.int .i64 r.kd, .string r.ct, .slice r.tp r.tn r.tc, .bool r.e, .int .i64 r.a, .int .i64 r.p, .int .i64 r.nu, .int .i64 r.tk, .int .i64 r.st, .string r.cd, .slice r.cp r.cn r.cc, .slice r.ap r.an r.ac]) 26)
  have bx := Box.new w (#[.int .i64 r.kd, .string r.ct, .slice r.tp r.tn r.tc, .bool r.e, .int .i64 r.a, .int .i64 r.p, .int .i64 r.nu, .int .i64 r.tk, .int .i64 r.st, .string r.cd, .slice r.cp r.cn r.cc, .slice r.ap r.an r.ac]) 26
  have ht := twin_any r _ (hl.below bv) h1 h2 h3
  have HA : Hid (ErrType w ∧ PVx w ∧ LieR w r ∧ r.tn ≤ 140737488355328 ∧ r.cn ≤ 140737488355328 ∧ r.an ≤ 140737488355328) := ⟨hE, hV, hl, h1, h2, h3⟩
  have HB : Hid (Below w.heap.size w (w.alloc (.cells (#[.int .i64 r.kd, .string r.ct, .slice r.tp r.tn r.tc, .bool r.e, .int .i64 r.a, .int .i64 r.p, .int .i64 r.nu, .int .i64 r.tk, .int .i64 r.st, .string r.cd, .slice r.cp r.cn r.cc, .slice r.ap r.an r.ac]) 26))) := bv
  have HX : Hid (Box (w.alloc (.cells (#[.int .i64 r.kd, .string r.ct, .slice r.tp r.tn r.tc, .bool r.e, .int .i64 r.a, .int .i64 r.p, .int .i64 r.nu, .int .i64 r.tk, .int .i64 r.st, .string r.cd, .slice r.cp r.cn r.cc, .slice r.ap r.an r.ac]) 26)) w.heap.size (#[.int .i64 r.kd, .string r.ct, .slice r.tp r.tn r.tc, .bool r.e, .int .i64 r.a, .int .i64 r.p, .int .i64 r.nu, .int .i64 r.tk, .int .i64 r.st, .string r.cd, .slice r.cp r.cn r.cc, .slice r.ap r.an r.ac])) := bx
  clear hE hV hl h1 h2 h3 bv bx
  go_enter Tryz.func3, Tryz.ntmps3
  go_wp2_with fail
  refine ht.mono ?_
  rintro _ w1 ⟨a1, c1, a2, c2, a3, c3, rfl, hq⟩
  have HB1 : Hid (Below w.heap.size w w1) := below_then HB.out hq.b
  have HX1 : Hid (Box w1 w.heap.size (#[.int .i64 r.kd, .string r.ct, .slice r.tp r.tn r.tc, .bool r.e, .int .i64 r.a, .int .i64 r.p, .int .i64 r.nu, .int .i64 r.tk, .int .i64 r.st, .string r.cd, .slice r.cp r.cn r.cc, .slice r.ap r.an r.ac])) := HX.out.below hq.b
  have HL1 : Hid (LieR w1 (r.wi a1 c1 a2 c2 a3 c3)) := ⟨hq.t.byts, hq.c.byts, hq.a.byts⟩
  clear ht hq HX HB
  go_wp2_with fail
  have HV1 : Hid (EL r a1 c1 a2 c2 a3 c3 w w.heap.size w1.heap.size (w1.alloc (.cells (#[.int .i64 r.kd, .string r.ct, .slice a1 r.tn c1, .bool r.e, .int .i64 r.a, .int .i64 r.p, .int .i64 r.nu, .int .i64 r.tk, .int .i64 r.st, .string r.cd, .slice a2 r.cn c2, .slice a3 r.an c3]) 26))) := ⟨below_then HB1.out ((Below.refl _ _).alloc (Nat.le_refl _) _), HX1.out.alloc _, Box.new _ _ _, HL1.out.below ((Below.refl _ _).alloc (Nat.le_refl _) _)⟩
  generalize w1.alloc (.cells (#[.int .i64 r.kd, .string r.ct, .slice a1 r.tn c1, .bool r.e, .int .i64 r.a, .int .i64 r.p, .int .i64 r.nu, .int .i64 r.tk, .int .i64 r.st, .string r.cd, .slice a2 r.cn c2, .slice a3 r.an c3]) 26) = V1 at HV1 ⊢
  obtain ⟨rb, hrb⟩ : ∃ rb, w.heap.size = rb := ⟨_, rfl⟩
  obtain ⟨ib, hib⟩ : ∃ ib, w1.heap.size = ib := ⟨_, rfl⟩
  have HEL : Hid (EL r a1 c1 a2 c2 a3 c3 w rb ib V1) := by rw [← hrb, ← hib]; exact HV1.out
  rw [hrb, hib]
  have hen := encode_cp r a1 c1 a2 c2 a3 c3 V1 (HA.out.2.1.below HEL.out.b) HEL.out.l
  clear HV1 HB1 HX1 HL1 hrb hib
  refine hen.mono ?_
  intro ev w2 hq
  clear hen
  rcases hq with ⟨h0, a, c, rfl, hrow, hb⟩ | ⟨h0, b, rfl, hgf, hb⟩
  · have HE2 : Hid (EL r a1 c1 a2 c2 a3 c3 w rb ib w2) := HEL.out.below hb
    have HR2 : Hid (BRow w2 V1.heap.size (.slice a (encR r).length c) (encR r) ∧ wrR r = 0) := ⟨hrow, h0⟩
    have cx := HE2.out.x.cell
    have hre := rEncode_any r w2 (HA.out.2.2.1.below HE2.out.b)
    clear hrow hb h0 HEL
    go_wp2_with fail
    refine hre.mono ?_
    intro ev w3 hq
    rcases hq with ⟨_, a', c', rfl, hrow', hb'⟩ | ⟨h0, _⟩
    rotate_left
    · exact absurd HR2.out.2 h0
    have HE3 : Hid (EL r a1 c1 a2 c2 a3 c3 w rb ib w3) := HE2.out.below hb'
    have hn : (encR r).length ≤ 20000 := enc_small HR2.out.2 HA.out.2.2.1.t.len HA.out.2.2.1.c.len HA.out.2.2.1.a.len
    have hsm := memSame_true (ac := c) (bc := c') (BRow.byts (ERow.below HR2.out.1 hb')) hrow'.byts (by omega)
    obtain ⟨n, hn2⟩ : ∃ n, (encR r).length = n := ⟨_, rfl⟩
    rw [hn2] at hn hsm ⊢
    have hn3 : (n : Int) ≤ 20000 := by omega
    clear hre hrow' hb' hn2 cx HR2 HE2
    go_wp2_with fail
    refine hsm.mono ?_
    rintro _ w4 ⟨rfl, m, rfl⟩
    have HE4 : Hid (EL r a1 c1 a2 c2 a3 c3 w rb ib (w3.drewN m)) := HE3.out.below (below_drewN (Below.refl _ _) m)
    have hrf := refused_nil (w3.drewN m)
    have cx := HE4.out.x.cell
    have cy := HE4.out.y.cell
    have hlk := like_true r a1 c1 a2 c2 a3 c3 (w3.drewN m) (HA.out.2.2.1.below HE4.out.b) HE4.out.l HA.out.2.2.2.1 HA.out.2.2.2.2.1 HA.out.2.2.2.2.2
    clear hsm HE3
    generalize w3.drewN m = V4 at HE4 hrf cx cy hlk ⊢
    go_wp2_with fail
    refine hrf.mono ?_
    rintro _ w9 ⟨rfl, h9⟩
    subst w9
    clear hrf
    go_wp2_with fail
    refine hlk.mono ?_
    rintro _ w5 ⟨rfl, hb5⟩
    have HBE : Hid (Below w.heap.size w w5) := below_then HE4.out.b hb5
    clear hlk hb5 cx cy
    go_wp2_with fail
    go_ret
    exact ⟨rfl, HBE.out⟩
  · have HE2 : Hid (EL r a1 c1 a2 c2 a3 c3 w rb ib w2) := HEL.out.below hb
    have HR2 : Hid (GFault w2 b (wrR r : Nat) 320 ∧ wrR r ≠ 0) := ⟨hgf, h0⟩
    have cx := HE2.out.x.cell
    have hre := rEncode_any r w2 (HA.out.2.2.1.below HE2.out.b)
    clear hgf hb h0 HEL
    go_wp2_with fail
    refine hre.mono ?_
    intro ev w3 hq
    rcases hq with ⟨h0, _⟩ | ⟨_, g, rfl, hlk', hb'⟩
    · exact absurd h0 HR2.out.2
    have HE3 : Hid (EL r a1 c1 a2 c2 a3 c3 w rb ib w3) := HE2.out.below hb'
    have HF3 : Hid (GFault w3 b (wrR r : Nat) 320 ∧ LinkAt w3 g (wrR r : Nat) 320) := ⟨HR2.out.1.below hb', hlk'⟩
    have hsm := memSame_true (w := w3) (ac := 0) (bc := 0) (Byts.nil w3 none) (Byts.nil w3 none) (by omega)
    clear hre hlk' hb' cx HR2 HE2
    go_wp2_with fail
    refine hsm.mono ?_
    rintro _ w4 ⟨rfl, m, rfl⟩
    have bm : Below w3.heap.size w3 (w3.drewN m) := below_drewN (Below.refl _ _) m
    have HE4 : Hid (EL r a1 c1 a2 c2 a3 c3 w rb ib (w3.drewN m)) := HE3.out.below bm
    have hk := HF3.out.2.below bm
    have hrf := refused_one b g (wrR r : Nat) 320 (w3.drewN m) (errType_below HA.out.1 HE4.out.b) (HF3.out.1.below bm) hk.1 hk.2.1 hk.2.2
    clear hsm HE3 bm hk HF3
    generalize w3.drewN m = V4 at HE4 hrf ⊢
    go_wp2_with fail
    refine hrf.mono ?_
    rintro _ w5 ⟨rfl, hb5⟩
    have HE5 : Hid (EL r a1 c1 a2 c2 a3 c3 w rb ib w5) := HE4.out.below hb5
    have cx := HE5.out.x.cell
    have cy := HE5.out.y.cell
    have hlk := like_true r a1 c1 a2 c2 a3 c3 w5 (HA.out.2.2.1.below HE5.out.b) HE5.out.l HA.out.2.2.2.1 HA.out.2.2.2.2.1 HA.out.2.2.2.2.2
    clear hrf hb5 HE4
    go_wp2_with fail
    refine hlk.mono ?_
    rintro _ w6 ⟨rfl, hb6⟩
    have HBE : Hid (Below w.heap.size w w6) := below_then HE5.out.b hb6
    clear hlk hb6 cx cy
    go_wp2_with fail
    go_ret
    exact ⟨rfl, HBE.out⟩
end Go.Proofs.YtghnkfipecpgpaaGreatDoor
