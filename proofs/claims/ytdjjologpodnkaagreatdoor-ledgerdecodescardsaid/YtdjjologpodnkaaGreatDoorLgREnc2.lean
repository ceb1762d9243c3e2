/-
  The document's Encode, walked.
-/
import Derived.Test.YtdjjologpodnkaaGreatDoorLgREnc
namespace Go.Proofs.YtdjjologpodnkaaGreatDoor
open Go.RowKit

/-- A list of one link. -/
def LinkAt (w : World) (b : Nat) (a code : Int) : Prop :=
  w.cell? ⟨b, 0, none⟩ = some (.string ⟨#[108, 101, 100, 103, 101, 114]⟩) ∧ w.cell? ⟨b, 1, none⟩ = some (.int .i64 a) ∧ w.cell? ⟨b, 2, none⟩ = some (.int .i64 code)
theorem LinkAt.below {w w' : World} {b : Nat} {a c : Int} (h : LinkAt w b a c) (hb : Below w.heap.size w w') : LinkAt w' b a c := by
  have hl : b < w.heap.size := cell_lt h.1
  have hk : ∀ o, w'.cell? ⟨b, o, none⟩ = w.cell? ⟨b, o, none⟩ := fun o => hb.cell (p := ⟨b, o, none⟩) hl
  exact ⟨by rw [hk]; exact h.1, by rw [hk]; exact h.2.1, by rw [hk]; exact h.2.2⟩
set_option maxHeartbeats 400000 in
theorem rFault_any (code a : Int) (w : World) : Calls Tryz.prog 19 #[.int .i64 code, .int .i64 a] w fun e w' => e = .returned (.slice (some ⟨w.heap.size, 0, none⟩) 1 1) ∧ LinkAt w' w.heap.size a code ∧ Below w.heap.size w w' := by
  go_enter Tryz.func19, Tryz.ntmps19
  go_wp2
  go_ret
  exact ⟨rfl, ⟨by simp, by simp, by simp⟩, (Below.refl _ _).alloc (Nat.le_refl _) _⟩
/-- What the document's Encode answers. -/
def REncQ (r : Rec) (w : World) (e : Ending) (w' : World) : Prop :=
  (wrR r = 0 ∧ ∃ a c, e = .returned (.tuple #[.slice a (encR r).length c, .slice none 0 0]) ∧ BRow w' w.heap.size (.slice a (encR r).length c) (encR r) ∧ Below w.heap.size w w') ∨
  (wrR r ≠ 0 ∧ ∃ b, e = .returned (.tuple #[.slice none 0 0, .slice (some ⟨b, 0, none⟩) 1 1]) ∧ LinkAt w' b (wrR r : Nat) 320 ∧ Below w.heap.size w w')
theorem sizes_of {r : Rec} {k f : Nat} (hk : r.kd = k) (h1 : 1 ≤ k) (h8 : k ≤ 8) (h2 : 2 ≤ f) (h10 : f ≤ 10) (hw : wl r (f - 1) = true) (hn : nmB k f = true) :
    (f = 2 → r.ct.size ≤ 100000) ∧ (f = 3 → r.tn ≤ 100000) ∧ (f = 8 → r.cd.size ≤ 100000) ∧ (f = 9 → r.cn ≤ 100000) ∧ (f = 10 → r.an ≤ 100000) := by
  have h := rOk_eq r k hk h1 h8 h2 h10
  rw [hw] at h
  unfold rOk at h
  rw [if_pos hn] at h
  refine ⟨?_, ?_, ?_, ?_, ?_⟩
  · rintro rfl
    unfold rW ctB at h
    simp only [Bool.and_eq_true, decide_eq_true_eq] at h
    omega
  · rintro rfl
    unfold rW at h
    simp only [Bool.and_eq_true, decide_eq_true_eq] at h
    omega
  · rintro rfl
    have h' : cwB r.kd r.st r.cd = true := h
    unfold cwB at h'
    split at h'
    · rw [vd_size h']; omega
    · split at h'
      · rw [cd_size h']; omega
      · rw [em_size] at h'; simp only [decide_eq_true_eq] at h'; omega
  · rintro rfl
    unfold rW at h
    simp only [decide_eq_true_eq] at h
    omega
  · rintro rfl
    unfold rW at h
    simp only [decide_eq_true_eq] at h
    omega
set_option maxRecDepth 100000 in
set_option maxHeartbeats 4000000 in
theorem rEncode_any (r : Rec) (w : World) (hl : LieR w r) : Calls Tryz.prog 7 #[.agg #[.int .i64 r.kd, .string r.ct, .slice r.tp r.tn r.tc, .bool r.e, .int .i64 r.a, .int .i64 r.p, .int .i64 r.nu, .int .i64 r.tk, .int .i64 r.st, .string r.cd, .slice r.cp r.cn r.cc, .slice r.ap r.an r.ac]] w (REncQ r w) := by
  have bv := (Below.refl w.heap.size w).alloc (Nat.le_refl _) (.cells (#[.int .i64 r.kd, .string r.ct, .slice r.tp r.tn r.tc, .bool r.e, .int .i64 r.a, .int .i64 r.p, .int .i64 r.nu, .int .i64 r.tk, .int .i64 r.st, .string r.cd, .slice r.cp r.cn r.cc, .slice r.ap r.an r.ac]) 26)
  have bx := Box.new w (#[.int .i64 r.kd, .string r.ct, .slice r.tp r.tn r.tc, .bool r.e, .int .i64 r.a, .int .i64 r.p, .int .i64 r.nu, .int .i64 r.tk, .int .i64 r.st, .string r.cd, .slice r.cp r.cn r.cc, .slice r.ap r.an r.ac]) 26
  have HB : Hid (Below w.heap.size w (w.alloc (.cells (#[.int .i64 r.kd, .string r.ct, .slice r.tp r.tn r.tc, .bool r.e, .int .i64 r.a, .int .i64 r.p, .int .i64 r.nu, .int .i64 r.tk, .int .i64 r.st, .string r.cd, .slice r.cp r.cn r.cc, .slice r.ap r.an r.ac]) 26))) := bv
  have HX : Hid (Box (w.alloc (.cells (#[.int .i64 r.kd, .string r.ct, .slice r.tp r.tn r.tc, .bool r.e, .int .i64 r.a, .int .i64 r.p, .int .i64 r.nu, .int .i64 r.tk, .int .i64 r.st, .string r.cd, .slice r.cp r.cn r.cc, .slice r.ap r.an r.ac]) 26)) w.heap.size (#[.int .i64 r.kd, .string r.ct, .slice r.tp r.tn r.tc, .bool r.e, .int .i64 r.a, .int .i64 r.p, .int .i64 r.nu, .int .i64 r.tk, .int .i64 r.st, .string r.cd, .slice r.cp r.cn r.cc, .slice r.ap r.an r.ac])) := bx
  have HL : Hid (LieR w r) := hl
  have hf := rWellR_any r (w.alloc (.cells (#[.int .i64 r.kd, .string r.ct, .slice r.tp r.tn r.tc, .bool r.e, .int .i64 r.a, .int .i64 r.p, .int .i64 r.nu, .int .i64 r.tk, .int .i64 r.st, .string r.cd, .slice r.cp r.cn r.cc, .slice r.ap r.an r.ac]) 26))
  clear bv bx hl
  rcases Nat.eq_zero_or_pos (wrR r) with h0 | h0
  rotate_left
  · have HW : Hid (wrR r ≠ 0) := Nat.pos_iff_ne_zero.1 h0
    obtain ⟨n, hn⟩ : ∃ n, wrR r = n := ⟨_, rfl⟩
    rw [hn] at hf h0
    have hq : (((n : Nat) : Int) != 0) = true := by simp; omega
    have hq2 : (((n : Nat) : Int) == 0) = false := by simp; omega
    have HN : Hid (wrR r = n) := hn
    clear h0 hn
    go_enter Tryz.func7, Tryz.ntmps7
    go_wp2_with fail
    refine hf.mono ?_
    rintro _ w1 ⟨rfl, hb1⟩
    have HB1 : Hid (Below w.heap.size w w1) := below_then HB.out hb1
    have hg := rFault_any 320 (n : Int) w1
    clear hf hb1 HX
    go_wp2_with fail
    refine hg.mono ?_
    rintro _ w2 ⟨rfl, hgf, hb2⟩
    have HE : Hid (REncQ r w (.returned (.tuple #[.slice none 0 0, .slice (some ⟨w1.heap.size, 0, none⟩) 1 1])) w2) := Or.inr ⟨HW.out, _, rfl, by rw [HN.out]; exact hgf, below_then HB1.out hb2⟩
    clear hg hgf hb2
    go_wp2_with fail
    refine bodyPost_ret (v := .tuple #[.slice none 0 0, .slice (some ⟨w1.heap.size, 0, none⟩) 1 1]) ?_ rfl HE.out
    simp [results, Tryz.results7, go_sem]
  · have hwl := well_all h0
    have hkd : 1 ≤ r.kd ∧ r.kd ≤ 8 := by
      have := hwl 0 (by omega)
      unfold wl fdOf fdWell at this
      simpa only [Bool.and_eq_true, decide_eq_true_eq] using this
    obtain ⟨k, hk⟩ : ∃ k : Nat, r.kd = k := ⟨r.kd.toNat, by omega⟩
    have HK : Hid (1 ≤ k ∧ k ≤ 8 ∧ r.kd = k ∧ (∀ i, i < 10 → wl r i = true) ∧ wrR r = 0) := ⟨by omega, by omega, hk, hwl, h0⟩
    have hw8 : IntKind.u8.wrap r.kd = r.kd := by rw [IntKind.wrap_u8]; omega
    rw [h0] at hf
    clear hwl hkd h0 hk
    go_enter Tryz.func7, Tryz.ntmps7
    go_wp2_with fail
    refine hf.mono ?_
    rintro _ w1 ⟨rfl, hb1⟩
    have HB1 : Hid (Below w.heap.size w w1) := below_then HB.out hb1
    have HX1 : Hid (Box w1 w.heap.size (#[.int .i64 r.kd, .string r.ct, .slice r.tp r.tn r.tc, .bool r.e, .int .i64 r.a, .int .i64 r.p, .int .i64 r.nu, .int .i64 r.tk, .int .i64 r.st, .string r.cd, .slice r.cp r.cn r.cc, .slice r.ap r.an r.ac])) := HX.out.below hb1
    have cx := HX1.out.cell
    have b2 := (Below.refl w1.heap.size w1).alloc (Nat.le_refl _) (.cells #[.int .u8 r.kd] 5)
    have HR0 : Hid (BRow (w1.alloc (.cells #[.int .u8 r.kd] 5)) w1.heap.size (.slice (some ⟨w1.heap.size, 0, none⟩) 1 1) [(k : Int)] ∧ Below w1.heap.size w1 (w1.alloc (.cells #[.int .u8 r.kd] 5))) := by
      refine ⟨?_, b2⟩
      rw [HK.out.2.2.1]
      exact brow_one w1 _
    obtain ⟨xb, hxb⟩ : ∃ xb, w.heap.size = xb := ⟨_, rfl⟩
    rw [hxb] at HX1 cx ⊢
    clear hf hb1 HX b2 hxb
    go_wp2_with fail
    generalize w1.alloc (.cells #[.int .u8 r.kd] 5) = V0 at HR0 ⊢
    have HLN : Hid (∀ n, n ≤ 9 → (rEnc r k 2 n).length ≤ 100000) := fun n hn => by
      have h1 : ∀ n f, 2 ≤ f → f + n ≤ 11 → rEnc r k f n = encFrom r (f - 1) n := by
        intro n
        induction n with
        | zero => intro f _ _; rfl
        | succ n ih =>
          intro f hf hn
          rw [rEnc, encFrom, fd_eq r k HK.out.2.2.1 HK.out.1 HK.out.2.1 hf (by omega), ih (f + 1) (by omega) (by omega), show f + 1 - 1 = f - 1 + 1 by omega]
      rw [h1 n 2 (by omega) (by omega)]
      have := enc_len HK.out.2.2.2.1 HL.out.t.len HL.out.c.len HL.out.a.len n 1 (by omega)
      simp only [Nat.reduceSub] at this ⊢
      omega
    clear cx
    go_loopw [5, 6] (fun t5 t6 wx => ∃ (f : Nat) (a : Option Addr) (c : Nat) (d : List Int), 2 ≤ f ∧ f ≤ 11 ∧ t6 = .int .i64 f ∧ t5 = .slice a d.length c ∧ Hid (d = (k : Int) :: rEnc r k 2 (f - 2) ∧ BRow wx w1.heap.size t5 d ∧ Below w1.heap.size w1 wx)) (fun _ t6 _ => 11 - (intOf t6).toNat)
    case atStart => exact ⟨2, some ⟨w1.heap.size, 0, none⟩, 1, [(k : Int)], by omega, by omega, rfl, rfl, rfl, HR0.out.1, HR0.out.2⟩
    case round =>
      obtain ⟨f, a, c, d, h2, hf, rfl, rfl, HI⟩ := hrel
      by_cases hlt : f ≤ 10
      · have hlt1 : (f : Int) ≤ 10 := by omega
        have cx := (HX1.out.below HI.out.2.2).cell
        have hn : Calls Tryz.prog 20 #[.int .i64 r.kd, .int .i64 f] wr fun e w' => e = .returned (.bool (nmB k f)) ∧ Below wr.heap.size wr w' := by rw [HK.out.2.2.1]; exact rNamed_any k f HK.out.2.1 wr
        have HD : Hid ((k : Int) :: rEnc r k 2 (f + 1 - 2) = d ++ (if nmB k f = true then rB r f else [])) := by
          unfold Hid
          rw [HI.out.1, show f + 1 - 2 = (f - 2) + 1 by omega, rEnc_snoc, show 2 + (f - 2) = f by omega]
          rfl
        have hdl : d.length ≤ 100001 := by rw [HI.out.1, List.length_cons]; have := HLN.out (f - 2) (by omega); omega
        go_wp2_with fail
        refine hn.mono ?_
        rintro _ w2 ⟨rfl, hb2⟩
        have cx2 := ((HX1.out.below HI.out.2.2).below hb2).cell
        have HI2 : Hid (BRow w2 w1.heap.size (.slice a d.length c) d ∧ Below w1.heap.size w1 w2) := ⟨ERow.below HI.out.2.1 hb2, below_then HI.out.2.2 hb2⟩
        clear hn hb2 cx HI
        cases hnm : nmB k f with
        | true =>
          have hfl := rField_any r h2 hlt w2 ((HL.out.below HB1.out).below HI2.out.2) (sizes_of HK.out.2.2.1 HK.out.1 HK.out.2.1 h2 hlt (HK.out.2.2.2.1 (f - 1) (by omega)) hnm)
          rw [hnm] at HD
          simp only [if_true] at HD
          have hml : (rB r f).length ≤ 100000 := by
            have h1 := fd_eq r k HK.out.2.2.1 HK.out.1 HK.out.2.1 h2 hlt
            rw [if_pos hnm] at h1
            rw [h1]
            have := fdOf_len (show f - 1 < 10 by omega) (HK.out.2.2.2.1 (f - 1) (by omega)) HL.out.t.len HL.out.c.len HL.out.a.len
            omega
          clear hnm
          go_wp2_with fail
          refine hfl.mono ?_
          rintro _ w3 ⟨a9, c9, rfl, hr9, hb9⟩
          obtain ⟨a', c', w4, hr, r1, o1⟩ := run_app c9 (ERow.below HI2.out.1 hb9) hr9.byts (by omega) (Nat.le_trans HI2.out.2.size hb9.size)
          have HE : Hid (d ++ rB r f = (k : Int) :: rEnc r k 2 (f + 1 - 2) ∧ BRow w4 w1.heap.size (.slice a' (d ++ rB r f).length c') (d ++ rB r f) ∧ Below w1.heap.size w1 w4) := by
            refine ⟨HD.out.symm, by rw [List.length_append]; exact r1, (below_then HI2.out.2 hb9).trans (o1.below (Nat.le_trans HI2.out.2.size hb9.size) fun q hq => ?_)⟩
            exact (BRow.own HI2.out.1 hq).1
          obtain ⟨m9, hm9⟩ : ∃ m, (rB r f).length = m := ⟨_, rfl⟩
          have HM : Hid ((rB r f).length = m9) := hm9
          rw [hm9] at hr hml ⊢
          clear hm9
          clear hfl hr9 hb9 r1 o1 cx2 HI2 HD
          go_wp2_with (at_builtin; refine wpList_append_run rfl (.tmp 27) (.tmp 30) 22 _ rfl hr ?_)
          go_roundw
          case rel => exact ⟨f + 1, a', c', d ++ rB r f, by omega, by omega, by go_num, by rw [List.length_append, HM.out], HE.out.1, by have := HE.out.2.1; rw [List.length_append, HM.out] at this; exact this, HE.out.2.2⟩
          case measure => simp [intOf]; omega
        | false =>
          rw [hnm] at HD
          simp only [Bool.false_eq_true, if_false, List.append_nil] at HD
          clear hnm cx2
          go_wp2_with fail
          go_roundw
          case rel => exact ⟨f + 1, a, c, d, by omega, by omega, by go_num, rfl, HD.out.symm, HI2.out.1, HI2.out.2⟩
          case measure => simp [intOf]; omega
      · have hlt1 : ¬ (f : Int) ≤ 10 := by omega
        obtain rfl : f = 11 := by omega
        have HE : Hid (REncQ r w (.returned (.tuple #[.slice a d.length c, .slice none 0 0])) wr) := by
          obtain ⟨h1, h2, h3⟩ := HI.out
          rw [show (11 - 2 : Nat) = 9 from rfl, ← enc_eq r k HK.out.2.2.1 HK.out.1 HK.out.2.1] at h1
          rw [h1] at h2 ⊢
          exact Or.inl ⟨HK.out.2.2.2.2, a, c, rfl, ERow.base h2 HB1.out.size, below_then HB1.out h3⟩
        clear HI
        go_wp2_with fail
        refine bodyPost_ret (v := .tuple #[.slice a d.length c, .slice none 0 0]) ?_ rfl HE.out
        simp [results, Tryz.results7, go_sem]
end Go.Proofs.YtdjjologpodnkaaGreatDoor
