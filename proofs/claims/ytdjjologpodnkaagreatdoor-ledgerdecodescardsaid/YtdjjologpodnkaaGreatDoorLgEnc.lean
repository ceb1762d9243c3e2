/-
  Encode.
-/
import Derived.Test.YtdjjologpodnkaaGreatDoorLgRec
namespace Go.Proofs.YtdjjologpodnkaaGreatDoor
open Go.RowKit

/-- The cells of a fault of layer "ledger". -/
def GFault (w : World) (b : Nat) (a code : Int) : Prop :=
  w.cell? ⟨b, 0, none⟩ = some (.string ⟨#[108, 101, 100, 103, 101, 114]⟩) ∧ w.cell? ⟨b, 1, none⟩ = some (.int .i64 a) ∧ w.cell? ⟨b, 2, none⟩ = some (.int .i64 code) ∧ w.cell? ⟨b, 3, none⟩ = some .nilIface
theorem GFault.keep {w w' : World} {b : Nat} {a c : Int} (h : GFault w b a c) (hk : ∀ o, w'.cell? ⟨b, o, none⟩ = w.cell? ⟨b, o, none⟩) : GFault w' b a c :=
  ⟨by rw [hk]; exact h.1, by rw [hk]; exact h.2.1, by rw [hk]; exact h.2.2.1, by rw [hk]; exact h.2.2.2⟩
theorem GFault.below {w w' : World} {b : Nat} {a c : Int} (h : GFault w b a c) (hb : Below w.heap.size w w') : GFault w' b a c := by
  have hl : b < w.heap.size := cell_lt h.1
  exact h.keep fun o => hb.cell (p := ⟨b, o, none⟩) hl
set_option maxHeartbeats 400000 in
theorem gfault_any (a code : Int) (w : World) : Calls Tryz.prog 16 #[.int .i64 a, .int .i64 code] w fun e w' => e = .returned (.iface 74 (.pointer (some ⟨w.heap.size, 0, none⟩))) ∧ GFault w' w.heap.size a code ∧ Below w.heap.size w w' := by
  go_enter Tryz.func16, Tryz.ntmps16
  go_wp2
  go_ret
  exact ⟨rfl, ⟨by simp, by simp, by simp, by simp⟩, (Below.refl _ _).alloc (Nat.le_refl _) _⟩
/-- Bytes of one's own from B on. -/
def BytQ (w : World) (bs : List Int) (e : Ending) (w' : World) : Prop := ∃ a c, e = .returned (.slice a bs.length c) ∧ BRow w' w.heap.size (.slice a bs.length c) bs ∧ Below w.heap.size w w'
set_option maxRecDepth 100000 in
set_option maxHeartbeats 2000000 in
theorem recordBytes_any (r : Rec) (w : World) (hr : LowR w w.heap.size r) (hw : wrR r = 0) : Calls Tryz.prog 17 #[.agg #[.int .i64 r.kd, .string r.ct, .slice r.tp r.tn r.tc, .bool r.e, .int .i64 r.a, .int .i64 r.p, .int .i64 r.nu, .int .i64 r.tk, .int .i64 r.st, .string r.cd, .slice r.cp r.cn r.cc, .slice r.ap r.an r.ac]] w (BytQ w (encR r)) := by
  have b1 : Below w.heap.size w (w.alloc (.cells (#[.int .i64 r.kd, .string r.ct, .slice r.tp r.tn r.tc, .bool r.e, .int .i64 r.a, .int .i64 r.p, .int .i64 r.nu, .int .i64 r.tk, .int .i64 r.st, .string r.cd, .slice r.cp r.cn r.cc, .slice r.ap r.an r.ac]) 26)) := (Below.refl _ _).alloc (Nat.le_refl _) _
  have b2 : Below w.heap.size w ((w.alloc (.cells (#[.int .i64 r.kd, .string r.ct, .slice r.tp r.tn r.tc, .bool r.e, .int .i64 r.a, .int .i64 r.p, .int .i64 r.nu, .int .i64 r.tk, .int .i64 r.st, .string r.cd, .slice r.cp r.cn r.cc, .slice r.ap r.an r.ac]) 26)).alloc (.cells #[.slice none 0 0] 79)) := b1.alloc b1.size _
  have bx := (Box.new w (#[.int .i64 r.kd, .string r.ct, .slice r.tp r.tn r.tc, .bool r.e, .int .i64 r.a, .int .i64 r.p, .int .i64 r.nu, .int .i64 r.tk, .int .i64 r.st, .string r.cd, .slice r.cp r.cn r.cc, .slice r.ap r.an r.ac]) 26).alloc (.cells #[.slice none 0 0] 79)
  have by_ := Box.new (w.alloc (.cells (#[.int .i64 r.kd, .string r.ct, .slice r.tp r.tn r.tc, .bool r.e, .int .i64 r.a, .int .i64 r.p, .int .i64 r.nu, .int .i64 r.tk, .int .i64 r.st, .string r.cd, .slice r.cp r.cn r.cc, .slice r.ap r.an r.ac]) 26)) #[.slice none 0 0] 79
  rw [World.size_alloc] at by_
  have hp := passRecord_any (L := w.heap.size + 1) (B := w.heap.size + 1 + 1) r ⟨⟨none, 0, by_.cell 0, ERow.nil _ _ _ _ _⟩, by_.free 0⟩ bx (hr.below b2) (by omega) hw (by omega) (by omega) (by omega) (by simp)
  have HB : Hid (Below w.heap.size w ((w.alloc (.cells (#[.int .i64 r.kd, .string r.ct, .slice r.tp r.tn r.tc, .bool r.e, .int .i64 r.a, .int .i64 r.p, .int .i64 r.nu, .int .i64 r.tk, .int .i64 r.st, .string r.cd, .slice r.cp r.cn r.cc, .slice r.ap r.an r.ac]) 26)).alloc (.cells #[.slice none 0 0] 79))) := b2
  clear b1 b2 bx by_ hr hw
  go_enter Tryz.func17, Tryz.ntmps17
  go_wp2_with fail
  refine hp.mono ?_
  rintro _ w1 ⟨rfl, hly, ho⟩
  obtain ⟨⟨a, c, hc, hrow⟩, _⟩ := hly
  have HE : Hid (BytQ w (encR r) (.returned (.slice a (encR r).length c)) w1) := ⟨a, c, rfl, ERow.base hrow (by omega), HB.out.trans (ho.below HB.out.size (fun q hq => by omega))⟩
  clear hp hrow ho
  go_wp2_with fail
  go_ret
  exact HE.out
/-- What Encode answers. -/
def EncQ (r : Rec) (w : World) (e : Ending) (w' : World) : Prop :=
  (wrR r = 0 ∧ ∃ a c, e = .returned (.tuple #[.slice a (encR r).length c, .nilIface]) ∧ BRow w' w.heap.size (.slice a (encR r).length c) (encR r) ∧ Below w.heap.size w w') ∨
  (wrR r ≠ 0 ∧ ∃ b, e = .returned (.tuple #[.slice none 0 0, .iface 74 (.pointer (some ⟨b, 0, none⟩))]) ∧ GFault w' b (wrR r : Nat) 320 ∧ Below w.heap.size w w')
set_option maxRecDepth 100000 in
set_option maxHeartbeats 2000000 in
theorem encode_any (r : Rec) (w : World) (hV : PVx w) (hr : LowR w w.heap.size r) : Calls Tryz.prog 6 #[.agg #[.int .i64 r.kd, .string r.ct, .slice r.tp r.tn r.tc, .bool r.e, .int .i64 r.a, .int .i64 r.p, .int .i64 r.nu, .int .i64 r.tk, .int .i64 r.st, .string r.cd, .slice r.cp r.cn r.cc, .slice r.ap r.an r.ac]] w (EncQ r w) := by
  have b1 : Below w.heap.size w (w.alloc (.cells (#[.int .i64 r.kd, .string r.ct, .slice r.tp r.tn r.tc, .bool r.e, .int .i64 r.a, .int .i64 r.p, .int .i64 r.nu, .int .i64 r.tk, .int .i64 r.st, .string r.cd, .slice r.cp r.cn r.cc, .slice r.ap r.an r.ac]) 26)) := (Below.refl _ _).alloc (Nat.le_refl _) _
  have bx := Box.new w (#[.int .i64 r.kd, .string r.ct, .slice r.tp r.tn r.tc, .bool r.e, .int .i64 r.a, .int .i64 r.p, .int .i64 r.nu, .int .i64 r.tk, .int .i64 r.st, .string r.cd, .slice r.cp r.cn r.cc, .slice r.ap r.an r.ac]) 26
  have hf := wrongField_any r (w.alloc (.cells (#[.int .i64 r.kd, .string r.ct, .slice r.tp r.tn r.tc, .bool r.e, .int .i64 r.a, .int .i64 r.p, .int .i64 r.nu, .int .i64 r.tk, .int .i64 r.st, .string r.cd, .slice r.cp r.cn r.cc, .slice r.ap r.an r.ac]) 26)) (hV.below b1)
  have HB : Hid (Below w.heap.size w (w.alloc (.cells (#[.int .i64 r.kd, .string r.ct, .slice r.tp r.tn r.tc, .bool r.e, .int .i64 r.a, .int .i64 r.p, .int .i64 r.nu, .int .i64 r.tk, .int .i64 r.st, .string r.cd, .slice r.cp r.cn r.cc, .slice r.ap r.an r.ac]) 26))) := b1
  have HX : Hid (Box (w.alloc (.cells (#[.int .i64 r.kd, .string r.ct, .slice r.tp r.tn r.tc, .bool r.e, .int .i64 r.a, .int .i64 r.p, .int .i64 r.nu, .int .i64 r.tk, .int .i64 r.st, .string r.cd, .slice r.cp r.cn r.cc, .slice r.ap r.an r.ac]) 26)) w.heap.size (#[.int .i64 r.kd, .string r.ct, .slice r.tp r.tn r.tc, .bool r.e, .int .i64 r.a, .int .i64 r.p, .int .i64 r.nu, .int .i64 r.tk, .int .i64 r.st, .string r.cd, .slice r.cp r.cn r.cc, .slice r.ap r.an r.ac])) := bx
  have HR : Hid (LowR w w.heap.size r) := hr
  clear hV b1 bx hr
  rcases Nat.eq_zero_or_pos (wrR r) with h0 | h0
  · have HW : Hid (wrR r = 0) := h0
    rw [h0] at hf
    clear h0
    go_enter Tryz.func6, Tryz.ntmps6
    go_wp2_with fail
    refine hf.mono ?_
    rintro _ w1 ⟨rfl, hb1⟩
    have HB1 : Hid (Below w.heap.size w w1) := below_then HB.out hb1
    have cx := (HX.out.below hb1).cell
    have hp := recordBytes_any r w1 (HR.out.below HB1.out |>.up HB1.out.size) HW.out
    clear hf hb1 HX
    go_wp2_with fail
    refine hp.mono ?_
    rintro _ w2 ⟨a, c, rfl, hrow, hb2⟩
    have HE : Hid (EncQ r w (.returned (.tuple #[.slice a (encR r).length c, .nilIface])) w2) := Or.inl ⟨HW.out, a, c, rfl, ERow.base hrow HB1.out.size, below_then HB1.out hb2⟩
    clear hp hrow hb2 cx
    go_wp2_with fail
    refine bodyPost_ret (v := .tuple #[.slice a (encR r).length c, .nilIface]) ?_ rfl HE.out
    simp [results, Tryz.results6, go_sem]
  · have HW : Hid (wrR r ≠ 0) := Nat.pos_iff_ne_zero.1 h0
    obtain ⟨n, hn⟩ : ∃ n, wrR r = n := ⟨_, rfl⟩
    rw [hn] at hf h0
    have hq : (((n : Nat) : Int) != 0) = true := by simp; omega
    have hq2 : (((n : Nat) : Int) == 0) = false := by simp; omega
    have HN : Hid (wrR r = n) := hn
    clear h0 hn
    go_enter Tryz.func6, Tryz.ntmps6
    go_wp2_with fail
    refine hf.mono ?_
    rintro _ w1 ⟨rfl, hb1⟩
    have HB1 : Hid (Below w.heap.size w w1) := below_then HB.out hb1
    have hg := gfault_any (n : Int) 320 w1
    clear hf hb1 HX
    go_wp2_with fail
    refine hg.mono ?_
    rintro _ w2 ⟨rfl, hgf, hb2⟩
    have HE : Hid (EncQ r w (.returned (.tuple #[.slice none 0 0, .iface 74 (.pointer (some ⟨w1.heap.size, 0, none⟩))])) w2) := Or.inr ⟨HW.out, _, rfl, by rw [HN.out]; exact hgf, below_then HB1.out hb2⟩
    clear hg hgf hb2
    go_wp2_with fail
    refine bodyPost_ret (v := .tuple #[.slice none 0 0, .iface 74 (.pointer (some ⟨w1.heap.size, 0, none⟩))]) ?_ rfl HE.out
    simp [results, Tryz.results6, go_sem]
end Go.Proofs.YtdjjologpodnkaaGreatDoor
