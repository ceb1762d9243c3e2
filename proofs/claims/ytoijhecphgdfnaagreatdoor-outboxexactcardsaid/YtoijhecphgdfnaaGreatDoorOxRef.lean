import Derived.Test.YtoijhecphgdfnaaGreatDoorDcPi
import Derived.Test.YtoijhecphgdfnaaGreatDoorDcPp
import Derived.Test.YtoijhecphgdfnaaGreatDoorDcPd
import Derived.Lib.ConvBytes
import Derived.Lib.SliceRun
import Derived.Deep.CutRange
/-
  The program's Take, Judge, Copy.
-/
namespace Go.Proofs.YtoijhecphgdfnaaGreatDoor
open Go.RowKit

end Go.Proofs.YtoijhecphgdfnaaGreatDoor

/-
  The program's calls answer as the document does.
-/
namespace Go.Proofs.YtoijhecphgdfnaaGreatDoor
open Go.RowKit

theorem err_no {e : Bool} {a p : Int} (ok : okB e a p = false) : errN e a p = 220 := by unfold errN; rw [ok]; rfl
theorem err_ok {e : Bool} {a p : Int} (ok : okB e a p = true) : errN e a p = 0 := by unfold errN; rw [ok]; rfl
theorem may_ok (e : Bool) (a p : Int) (s : ByteArray) (w : World) (hV : PVc w) : Calls Tryz.prog 101 #[.agg #[.bool e, .int .i64 a, .int .i64 p], .string s] w fun r w' => ∃ ev, r = .returned (.tuple #[.bool (okB e a p && sentB e a p s), ev]) ∧ Ev w' ev 0 (errN e a p) ∧ Below w.heap.size w w' := by
  cases ok : okB e a p with
  | false => rw [err_no ok]; exact (May_no e a p s w ok).mono fun _ _ ⟨z, g1, g2, g3⟩ => ⟨_, g1, ev_no g2 (by decide), g3⟩
  | true => rw [err_ok ok]; exact (May_ok e a p s w hV ok).mono fun _ _ ⟨g1, g3⟩ => ⟨_, g1, ev_ok _ _, g3⟩
end Go.Proofs.YtoijhecphgdfnaaGreatDoor

/-
  The box's leaves: numbers, control ids, conditions, a message copied, found.
-/
namespace Go.Proofs.YtoijhecphgdfnaaGreatDoor
open Go.RowKit

set_option maxHeartbeats 400000 in
theorem isNumber_any (n : Int) (w : World) : Calls Tryz.prog 57 #[.int .i64 n] w fun e w' => e = .returned (.bool (nmB n)) ∧ w' = w := by
  go_enter Tryz.func57, Tryz.ntmps57
  go_wp2
  all_goals (go_ret; exact ⟨ret_bool (by unfold nmB; rw [Bool.eq_iff_iff]; simp; try omega), rfl⟩)
set_option maxHeartbeats 1000000 in
theorem isCB_any (c : Int) (w : World) : Calls Tryz.prog 100 #[.int .u8 c] w fun e w' => e = .returned (.bool (cbB c)) ∧ w' = w := by
  go_enter Tryz.func100, Tryz.ntmps100
  go_wp2
  all_goals (go_ret; exact ⟨ret_bool (by unfold cbB; rw [Bool.eq_iff_iff]; simp; try (first | omega | (intros; omega))), rfl⟩)
set_option maxRecDepth 100000 in
set_option maxHeartbeats 2000000 in
theorem isControl_any (s : ByteArray) (w : World) : Calls Tryz.prog 77 #[.string s] w fun e w' => e = .returned (.bool (ctB s)) ∧ Below w.heap.size w w' := by
  by_cases h0 : s.size = 0
  · have e0 : ctB s = false := by unfold ctB; rw [h0]; rfl
    rw [e0]
    have h2 : ((s.size : Int) == 0) = true := by rw [h0]; rfl
    go_enter Tryz.func77, Tryz.ntmps77
    go_wp2
    go_ret
    exact ⟨rfl, Below.refl _ _⟩
  have h2 : ((s.size : Int) == 0) = false := by rw [beq_eq_false_iff_ne]; omega
  by_cases h18 : 18 < s.size
  · have e0 : ctB s = false := by unfold ctB; rw [decide_eq_false (show ¬ s.size ≤ 18 by omega)]; simp
    rw [e0]
    have h3 : (s.size : Int) > 18 := by omega
    go_enter Tryz.func77, Tryz.ntmps77
    go_wp2
    go_ret
    exact ⟨rfl, Below.refl _ _⟩
  have h3 : ¬ (s.size : Int) > 18 := by omega
  have hcv : (convert 9 43 (.string s)).run Tryz.prog w = _ := Lib.run_convert_string_bytes _ 9 43 5 s Tryz.underlying9 Tryz.underlying43 Tryz.underlying5
  have hc2 := fun j hj => Lib.bytesWorld_cell w 5 s j hj
  have hb2 : Below w.heap.size w (Lib.bytesWorld w 5 s) := ⟨rfl, rfl, rfl, by rw [Lib.bytesWorld_size]; omega, fun k hk => Lib.bytesWorld_at_old w _ s k hk⟩
  obtain ⟨W2, hW2⟩ : ∃ W2, Lib.bytesWorld w 5 s = W2 := ⟨_, rfl⟩
  rw [hW2] at hcv hc2 hb2
  obtain ⟨cap, hcap⟩ : ∃ c, grownCap w s.size 0 5 = c := ⟨_, rfl⟩
  rw [hcap] at hcv
  obtain ⟨n, hn⟩ : ∃ n, s.size = n := ⟨_, rfl⟩
  have HN : Hid (s.data.toList.length = n) := by unfold Hid; rw [← hn]; rfl
  have HE : Hid (ctB s = s.data.toList.all (fun c => cbB (c.toNat : Int))) := by
    unfold ctB; rw [decide_eq_true (show 1 ≤ s.size by omega), decide_eq_true (show s.size ≤ 18 by omega)]; rfl
  rw [hn] at hcv h0 h18 h2 h3 hc2
  have HC : Hid (∀ j, j < n → W2.cell? ⟨w.heap.size, j, none⟩ = some (.int .u8 (s.data.toList.getD j 0).toNat)) := hc2
  have HB : Hid (Below w.heap.size w W2) := hb2
  have hsz : (s.size : Int) = n := by rw [hn]
  clear hW2 hcap hc2 hb2 hn
  go_enter Tryz.func77, Tryz.ntmps77
  go_wp2_with fail
  go_loopw [16] (fun t wx => ∃ i : Nat, i ≤ n ∧ t = .int .i64 i ∧ wx = W2 ∧ Hid ((s.data.toList.take i).all (fun c => cbB (c.toNat : Int)) = true)) (fun t _ => n - (intOf t).toNat)
  case atStart => exact ⟨0, Nat.zero_le _, rfl, rfl, rfl⟩
  case round =>
    obtain ⟨i, hi, rfl, rfl, HA⟩ := hrel
    by_cases hlt : i < n
    · have hlt1 : (i : Int) < n := by omega
      have ci := HC.out i hlt
      obtain ⟨b, hb⟩ : ∃ b, s.data.toList.getD i 0 = b := ⟨_, rfl⟩
      rw [hb] at ci
      have hil : i < s.data.toList.length := by rw [HN.out]; exact hlt
      have hgt : s.data.toList[i]'hil = b := by rw [← hb, List.getD_eq_getElem?_getD, List.getElem?_eq_getElem hil]; rfl
      have HB1 : Hid (s.data.toList[i]'hil = b) := hgt
      clear hb hgt
      cases hc : cbB (b.toNat : Int) with
      | true =>
        have hcb := isCB_any (b.toNat : Int) wr
        rw [hc] at hcb
        have HH : Hid (cbB (b.toNat : Int) = true) := hc
        clear hc
        go_wp2_with fail
        refine hcb.mono ?_
        rintro _ w9 ⟨rfl, h9⟩
        subst w9
        go_wp2_with fail
        go_roundw
        case rel =>
          refine ⟨i + 1, hlt, by go_num, by trivial, ?_⟩
          unfold Hid
          rw [List.take_succ_eq_append_getElem hil, List.all_append, HA.out, HB1.out]
          simp [HH.out]
        case measure => simp [intOf]; omega
      | false =>
        have hcb := isCB_any (b.toNat : Int) wr
        rw [hc] at hcb
        have HH : Hid (ctB s = false) := by
          unfold Hid
          rw [HE.out, List.all_eq_false]
          exact ⟨s.data.toList[i]'hil, List.getElem_mem hil, by rw [HB1.out, hc]; simp⟩
        clear hc
        go_wp2_with fail
        refine hcb.mono ?_
        rintro _ w9 ⟨rfl, h9⟩
        subst w9
        go_wp2_with fail
        go_ret
        exact ⟨ret_bool HH.out.symm, HB.out⟩
    · have hlt1 : ¬ (i : Int) < n := by omega
      have HH : Hid (ctB s = true) := by
        unfold Hid
        rw [HE.out, ← HA.out, List.take_of_length_le (by rw [HN.out]; omega)]
      go_wp2_with fail
      go_ret
      exact ⟨ret_bool HH.out.symm, HB.out⟩
set_option maxHeartbeats 1000000 in
theorem areRight_any (e : Bool) (a p : Int) (nt : Bool) (w : World) (hV : PVc w) : Calls Tryz.prog 78 #[.agg #[.bool e, .int .i64 a, .int .i64 p], .bool nt] w fun r w' => r = .returned (.bool (okB e a p && (caB e a || !nt))) ∧ Below w.heap.size w w' := by
  have bv : Below w.heap.size w (w.alloc (.cells #[.bool e, .int .i64 a, .int .i64 p] 45)) := (Below.refl _ _).alloc (Nat.le_refl _) _
  have hm := may_ok e a p ⟨#[67, 65]⟩ (w.alloc (.cells #[.bool e, .int .i64 a, .int .i64 p] 45)) (hV.below bv)
  rw [sent_1] at hm
  have HB : Hid (Below w.heap.size w (w.alloc (.cells #[.bool e, .int .i64 a, .int .i64 p] 45))) := bv
  clear bv hV
  cases ok : okB e a p with
  | true =>
    rw [err_ok ok, ok] at hm
    clear ok
    cases hc : caB e a <;> cases nt
    all_goals
      rw [hc] at hm
      clear hc
      go_enter Tryz.func78, Tryz.ntmps78
      go_wp2_with fail
      refine hm.mono ?_
      rintro _ w1 ⟨ev, rfl, hev, hb⟩
      rcases hev with ⟨rfl, _⟩ | ⟨h, _⟩
      · have HB1 : Hid (Below w.heap.size w w1) := below_then HB.out hb
        clear hb hm
        go_wp2_with fail
        go_ret
        exact ⟨rfl, HB1.out⟩
      · exact absurd rfl h
  | false =>
    rw [err_no ok, ok] at hm
    clear ok
    go_enter Tryz.func78, Tryz.ntmps78
    go_wp2_with fail
    refine hm.mono ?_
    rintro _ w1 ⟨ev, rfl, hev, hb⟩
    rcases hev with ⟨_, h⟩ | ⟨_, z, rfl, _⟩
    · cases h
    · have HB1 : Hid (Below w.heap.size w w1) := below_then HB.out hb
      clear hb hm
      go_wp2_with fail
      go_ret
      exact ⟨rfl, HB1.out⟩
end Go.Proofs.YtoijhecphgdfnaaGreatDoor

/-
  Texts: bytes that lie somewhere, rows of bytes; a message copied.
-/
namespace Go.Proofs.YtoijhecphgdfnaaGreatDoor
open Go.RowKit

/-- The bytes that a byte string holds. -/
structure Byts (w : World) (po : Option Addr) (n : Nat) (bs : List Int) : Prop where
  len : bs.length = n
  cell : ∀ j, j < n → ∃ b o, po = some ⟨b, o, none⟩ ∧ b < w.heap.size ∧ w.cell? ⟨b, o + j, none⟩ = some (.int .u8 (bs.getD j 0))
theorem Byts.off {P : Nat → Prop} {w w' : World} {po : Option Addr} {n : Nat} {bs : List Int} (h : Byts w po n bs) (ho : Off P w w') (hP : ∀ b o, po = some ⟨b, o, none⟩ → b < w.heap.size → ¬ P b) : Byts w' po n bs :=
  ⟨h.len, fun j hj => by
    obtain ⟨b, o, e, hl, hc⟩ := h.cell j hj
    exact ⟨b, o, e, Nat.lt_of_lt_of_le hl ho.size, by rw [ho.cell (p := ⟨b, o + j, none⟩) hl (hP b o e hl)]; exact hc⟩⟩
theorem Byts.below {w w' : World} {po : Option Addr} {n : Nat} {bs : List Int} (h : Byts w po n bs) (hb : Below w.heap.size w w') : Byts w' po n bs := h.off (P := fun _ => False) (Off.of_below hb) (fun _ _ _ _ => id)
def encB (z : Int) : List Value := [.int .u8 z]
theorem encB_len (z : Int) : (encB z).length = 1 := rfl
theorem encB_one (z : Int) : ∀ u ∈ encB z, u.oneCell' = true := fun u hu => by
  simp only [encB, List.mem_cons, List.not_mem_nil, or_false] at hu; rw [hu]; rfl
theorem celB : Cel Tryz.prog 5 1 1 := cel_of (by kernel_rfl)
theorem flatB (bs : List Int) {j : Nat} {u : Value} (h : (bs.flatMap encB)[j]? = some u) : j < bs.length ∧ u = .int .u8 (bs.getD j 0) := by
  have hj : j < bs.length := by
    have := (List.getElem?_eq_some_iff.1 h).1
    rwa [flat_len encB_len, Nat.mul_one] at this
  refine ⟨hj, ?_⟩
  have := flat_get encB_len bs j bs[j] 0 (List.getElem?_eq_getElem hj) (by decide)
  rw [Nat.mul_one, Nat.add_zero, h] at this
  simp only [encB, List.getElem?_cons_zero, Option.some.injEq] at this
  rw [this, List.getD_eq_getElem?_getD, List.getElem?_eq_getElem hj]
  rfl
/-- A text of one's own. -/
def BRow (w : World) (B : Nat) (v : Value) (bs : List Int) : Prop := ERow w B 5 1 encB v bs
theorem BRow.byts {w : World} {B : Nat} {a : Option Addr} {n c : Nat} {bs : List Int} (h : BRow w B (.slice a n c) bs) : Byts w a n bs := by
  refine ⟨(ERow.len h).symm, fun j hj => ?_⟩
  have hn := ERow.len h
  obtain ⟨g, e, hl, hc⟩ := ERow.at_ encB_len h (List.getElem?_eq_getElem (l := bs) (i := j) (by omega))
  refine ⟨g, 0, e, hl, ?_⟩
  have := hc 0 (by decide)
  rw [Nat.mul_one, Nat.add_zero] at this
  have hjl : j < bs.length := by omega
  rw [Nat.zero_add, this, List.getD_eq_getElem?_getD, List.getElem?_eq_getElem hjl]
  rfl
theorem BRow.nilcap {w : World} {B : Nat} {a : Option Addr} {n c : Nat} {bs : List Int} (h : BRow w B (.slice a n c) bs) : a = none → c = 0 := fun e => by
  rcases ERow.form h with ⟨e1, _⟩ | ⟨g, cap, e1, _⟩
  · simp only [Value.slice.injEq] at e1; exact e1.2.2
  · simp only [Value.slice.injEq] at e1; rw [e1.1] at e; cases e
theorem erow_empty (w : World) (B : Nat) (hB : B ≤ w.heap.size) : BRow (w.alloc (.cells #[] 5)) B (.slice (some ⟨w.heap.size, 0, none⟩) 0 0) [] :=
  ⟨rfl, Or.inr ⟨w.heap.size, 0, #[], rfl, hB, heap_alloc_new _ _, Nat.le_refl _, Nat.zero_le _, rfl, rfl⟩⟩
set_option maxRecDepth 100000 in
set_option maxHeartbeats 1000000 in
theorem clone_any {po : Option Addr} {m c : Nat} {bs : List Int} (w : World) (hb : Byts w po m bs) (hpo : po = none → c = 0) (hm : m ≤ 1000000) :
    Calls Tryz.prog 81 #[.slice po m c] w fun e w' => ∃ a k, e = .returned (.slice a m k) ∧ BRow w' w.heap.size (.slice a m k) bs ∧ Below w.heap.size w w' := by
  have q1 : ∀ (w : World) (a : Option Addr) (n c n' c' : Nat), (binOp .eql 43 (.slice a n c) (.slice none n' c')).run Tryz.prog w = .ok (.bool a.isNone) w := fun w a n c n' c' => Lib.run_eql_slice_nil w 43 5 a n c n' c' Tryz.underlying43
  have hlen := hb.len
  cases po with
  | none =>
    have hm0 : m = 0 := by
      rcases Nat.eq_zero_or_pos m with g | g
      · exact g
      · obtain ⟨_, _, e, _⟩ := hb.cell 0 g; cases e
    subst hm0
    obtain rfl : bs = [] := List.eq_nil_of_length_eq_zero hb.len
    obtain rfl := hpo rfl
    clear hb hpo hlen
    go_enter Tryz.func81, Tryz.ntmps81
    go_wp2_with fail
    go_ret
    exact ⟨none, 0, rfl, ERow.nil _ _ _ _ _, Below.refl _ _⟩
  | some a =>
    have ho : Off (fun _ => False) w (w.alloc (.cells #[] 5)) := (Off.refl _ _).alloc _
    have hbb := hb.off ho (fun _ _ _ _ => id)
    obtain ⟨a', c', w', hr, r1, o1, b1⟩ := run_eapp (P := Tryz.prog) (t := 43) (w := w.alloc (.cells #[] 5)) Tryz.underlying43 celB encB_len encB_one (erow_empty w w.heap.size (Nat.le_refl _)) (ys := bs) (n := m) (a := some a) (c := c) hlen.symm (fun e => by cases e) (fun a1 e1 j u hu => by
      cases e1
      obtain ⟨hj, rfl⟩ := flatB bs hu
      obtain ⟨b, o, e, _, hc⟩ := hbb.cell j (by omega)
      obtain rfl : a = ⟨b, o, none⟩ := by simpa using e
      rw [Addr.add_lit]; exact hc) (by simp; omega) (by omega) (by simp)
    simp only [List.length_nil, Nat.zero_add, hlen, List.nil_append] at hr r1
    have HE : Hid (BRow w' w.heap.size (.slice a' m c') bs ∧ Below w.heap.size w w') := ⟨r1, (ho.below (Nat.le_refl _) (fun _ g => g.elim)).trans (o1.below ho.size (fun k e => by simp [Value.ownBlock] at e; omega))⟩
    clear hb r1 o1 b1 ho hbb hlen
    go_enter Tryz.func81, Tryz.ntmps81
    go_wp2_with (at_builtin; refine wpList_append_run rfl (.tmp 5) (.tmp 6) 43 _ rfl hr ?_)
    go_ret
    exact ⟨a', c', rfl, HE.out.1, HE.out.2⟩
/-- A message with its text elsewhere. -/
abbrev Msg.wi (m : Msg) (a : Option Addr) (c : Nat) : Msg := { m with tp := a, tc := c }
set_option maxRecDepth 100000 in
set_option maxHeartbeats 1000000 in
theorem copied_any (m : Msg) (w : World) (hb : Byts w m.tp m.tn m.tx) (hpo : m.tp = none → m.tc = 0) (hm : m.tn ≤ 1000000) :
    Calls Tryz.prog 55 #[.agg #[.string m.ct, .slice m.tp m.tn m.tc, .bool m.e, .int .i64 m.a, .int .i64 m.p, .int .i64 m.nu, .bool m.nt, .int .i64 m.st, .int .i64 m.lf, .bool m.un]] w fun e w' => ∃ a c, e = .returned (.agg #[.string m.ct, .slice a m.tn c, .bool m.e, .int .i64 m.a, .int .i64 m.p, .int .i64 m.nu, .bool m.nt, .int .i64 m.st, .int .i64 m.lf, .bool m.un]) ∧ BRow w' w.heap.size (.slice a m.tn c) m.tx ∧ Below w.heap.size w w' := by
  have bv : Below w.heap.size w ((w.alloc (.cells #[.string m.ct, .slice m.tp m.tn m.tc, .bool m.e, .int .i64 m.a, .int .i64 m.p, .int .i64 m.nu, .bool m.nt, .int .i64 m.st, .int .i64 m.lf, .bool m.un] 91)).alloc (.cells #[.string ⟨#[]⟩, .slice none 0 0, .bool false, .int .i64 0, .int .i64 0, .int .i64 0, .bool false, .int .i64 0, .int .i64 0, .bool false] 91)) := ((Below.refl _ _).alloc (Nat.le_refl _) _).alloc (by simp) _
  have bx := (Box.new w #[.string m.ct, .slice m.tp m.tn m.tc, .bool m.e, .int .i64 m.a, .int .i64 m.p, .int .i64 m.nu, .bool m.nt, .int .i64 m.st, .int .i64 m.lf, .bool m.un] 91).alloc (.cells #[.string ⟨#[]⟩, .slice none 0 0, .bool false, .int .i64 0, .int .i64 0, .int .i64 0, .bool false, .int .i64 0, .int .i64 0, .bool false] 91)
  have by_ := Box.new (w.alloc (.cells #[.string m.ct, .slice m.tp m.tn m.tc, .bool m.e, .int .i64 m.a, .int .i64 m.p, .int .i64 m.nu, .bool m.nt, .int .i64 m.st, .int .i64 m.lf, .bool m.un] 91)) #[.string ⟨#[]⟩, .slice none 0 0, .bool false, .int .i64 0, .int .i64 0, .int .i64 0, .bool false, .int .i64 0, .int .i64 0, .bool false] 91
  rw [World.size_alloc] at by_
  have hc := clone_any _ (hb.below bv) hpo hm
  have HB0 : Hid (Below w.heap.size w ((w.alloc (.cells #[.string m.ct, .slice m.tp m.tn m.tc, .bool m.e, .int .i64 m.a, .int .i64 m.p, .int .i64 m.nu, .bool m.nt, .int .i64 m.st, .int .i64 m.lf, .bool m.un] 91)).alloc (.cells #[.string ⟨#[]⟩, .slice none 0 0, .bool false, .int .i64 0, .int .i64 0, .int .i64 0, .bool false, .int .i64 0, .int .i64 0, .bool false] 91))) := bv
  clear bv hb hpo hm
  go_enter Tryz.func55, Tryz.ntmps55
  go_wp2_with fail
  obtain ⟨V, hV⟩ : ∃ V, ((w.alloc (.cells #[.string m.ct, .slice m.tp m.tn m.tc, .bool m.e, .int .i64 m.a, .int .i64 m.p, .int .i64 m.nu, .bool m.nt, .int .i64 m.st, .int .i64 m.lf, .bool m.un] 91)).alloc (.cells #[.string ⟨#[]⟩, .slice none 0 0, .bool false, .int .i64 0, .int .i64 0, .int .i64 0, .bool false, .int .i64 0, .int .i64 0, .bool false] 91)) = V := ⟨_, rfl⟩
  rw [hV] at bx by_ hc HB0 ⊢
  have hz : V.heap.size = w.heap.size + 1 + 1 := by rw [← hV]; simp
  have HZ : Hid (V.heap.size = w.heap.size + 1 + 1) := hz
  clear hV hz
  refine hc.mono ?_
  rintro _ w1 ⟨a, c, rfl, hr, hb1⟩
  have HE : Hid (∀ W', Off (fun q => q = w.heap.size ∨ q = w.heap.size + 1) w1 W' → BRow W' w.heap.size (.slice a m.tn c) m.tx ∧ Below w.heap.size w W') := fun W' ho => by
    have hz := HZ.out
    refine ⟨ERow.base (ERow.off hr ho fun g hg hp => ?_) (by omega), (below_then HB0.out hb1).trans (ho.below (Nat.le_trans HB0.out.size hb1.size) fun k hk => by omega)⟩
    have := (ERow.lt hr hg).1
    omega
  have x1 := bx.below hb1
  have y1 := by_.below hb1
  have cx := x1.cell
  have cy := y1.cell
  have fx := x1.free
  have fy := y1.free
  clear hr hb1 hc bx by_ x1 y1
  go_wp2_with fail
  refine bodyPost_ret ?_ rfl ⟨a, c, rfl, HE.out _ ?_⟩
  · simp [results, Tryz.results55, go_sem, cy]
  · iterate 11 (refine Off.setCell ?_ (by first | exact Or.inl rfl | exact Or.inr rfl) _)
    exact Off.refl _ _
end Go.Proofs.YtoijhecphgdfnaaGreatDoor

/-
  find of the box's list; a box in memory; made, mayBring, refuse.
-/
namespace Go.Proofs.YtoijhecphgdfnaaGreatDoor
open Go.RowKit

set_option maxRecDepth 100000 in
set_option maxHeartbeats 1000000 in
theorem kfind_yes {w : World} {kb i : Nat} {v : Value} {ms : List Msg} {m : Msg} (h : Kd w kb v ms) (s : ByteArray) (hf : fi s ms = some i) (hm : ms[i]? = some m) : Calls Tryz.prog 76 #[.pointer (some ⟨kb, 0, none⟩), .string s] w fun e w' => e = .returned (.tuple #[.agg #[.string m.ct, .slice m.tp m.tn m.tc, .bool m.e, .int .i64 m.a, .int .i64 m.p, .int .i64 m.nu, .bool m.nt, .int .i64 m.st, .int .i64 m.lf, .bool m.un], .bool true]) ∧ Below w.heap.size w w' := by
  have bv : Below w.heap.size w (w.alloc (.cells #[.string ⟨#[]⟩, .slice none 0 0, .bool false, .int .i64 0, .int .i64 0, .int .i64 0, .bool false, .int .i64 0, .int .i64 0, .bool false] 91)) := (Below.refl _ _).alloc (Nat.le_refl _) _
  have bx := Box.new w #[.string ⟨#[]⟩, .slice none 0 0, .bool false, .int .i64 0, .int .i64 0, .int .i64 0, .bool false, .int .i64 0, .int .i64 0, .bool false] 91
  obtain ⟨a, c, rfl, _⟩ := h.2.1.isSlice
  have hi := (List.getElem?_eq_some_iff.1 hm).1
  obtain ⟨n, hn⟩ : ∃ n, ms.length = n := ⟨_, rfl⟩
  have hfI : fiI s ms = i := by unfold fiI; rw [hf]
  have hpl := place_any (h.below bv) s
  rw [hfI] at hpl
  rw [hn] at hi
  have q0 : (i : Int) < n := by omega
  have q1 : ¬ (i : Int) < 0 := by omega
  have q2 : n ≤ 32 := by rw [← hn]; exact h.2.2
  have HK : Hid (Kd w kb (.slice a n c) ms) := by rw [hn] at h; exact h
  have HM : Hid (ms[i]? = some m) := hm
  have HB0 : Hid (Below w.heap.size w (w.alloc (.cells #[.string ⟨#[]⟩, .slice none 0 0, .bool false, .int .i64 0, .int .i64 0, .int .i64 0, .bool false, .int .i64 0, .int .i64 0, .bool false] 91))) := bv
  clear hn hfI hf h hm bv
  go_enter Tryz.func76, Tryz.ntmps76
  go_wp2_with fail
  obtain ⟨V, hV⟩ : ∃ V, w.alloc (.cells #[.string ⟨#[]⟩, .slice none 0 0, .bool false, .int .i64 0, .int .i64 0, .int .i64 0, .bool false, .int .i64 0, .int .i64 0, .bool false] 91) = V := ⟨_, rfl⟩
  rw [hV] at bx hpl HB0 ⊢
  clear hV
  refine hpl.mono ?_
  rintro _ w1 ⟨rfl, hb1⟩
  have HB1 : Hid (Below w.heap.size w w1) := below_then HB0.out hb1
  have HK1 : Hid (Kd w1 kb (.slice a n c) ms) := HK.out.below HB1.out
  have x1 := bx.below hb1
  have cx := x1.cell
  have fx := x1.free
  have k1 := hcell HK1.out.1 1
  obtain ⟨g, rfl, hg, hc⟩ := erow_cells HK1.out.2.1 HM.out
  obtain ⟨c0, c1, c2, c3, c4, c5, c6, c7, c8, c9⟩ := hc
  clear hpl hb1 bx x1
  go_wp2_with fail
  refine bodyPost_ret ?_ rfl ⟨rfl, ?_⟩
  · simp [results, Tryz.results76, go_sem, cx]
  · iterate 10 (refine Below.setCell ?_ (by exact Nat.le_refl _) _)
    exact HB1.out
set_option maxRecDepth 100000 in
set_option maxHeartbeats 1000000 in
theorem kfind_no {w : World} {kb : Nat} {v : Value} {ms : List Msg} (h : Kd w kb v ms) (s : ByteArray) (hf : fi s ms = none) : Calls Tryz.prog 76 #[.pointer (some ⟨kb, 0, none⟩), .string s] w fun e w' => e = .returned (.tuple #[.agg #[.string ⟨#[]⟩, .slice none 0 0, .bool false, .int .i64 0, .int .i64 0, .int .i64 0, .bool false, .int .i64 0, .int .i64 0, .bool false], .bool false]) ∧ Below w.heap.size w w' := by
  have bv : Below w.heap.size w (w.alloc (.cells #[.string ⟨#[]⟩, .slice none 0 0, .bool false, .int .i64 0, .int .i64 0, .int .i64 0, .bool false, .int .i64 0, .int .i64 0, .bool false] 91)) := (Below.refl _ _).alloc (Nat.le_refl _) _
  have bx := Box.new w #[.string ⟨#[]⟩, .slice none 0 0, .bool false, .int .i64 0, .int .i64 0, .int .i64 0, .bool false, .int .i64 0, .int .i64 0, .bool false] 91
  have hfI : fiI s ms = -1 := by unfold fiI; rw [hf]
  have hpl := place_any (h.below bv) s
  rw [hfI] at hpl
  have HB0 : Hid (Below w.heap.size w (w.alloc (.cells #[.string ⟨#[]⟩, .slice none 0 0, .bool false, .int .i64 0, .int .i64 0, .int .i64 0, .bool false, .int .i64 0, .int .i64 0, .bool false] 91))) := bv
  clear hfI hf h bv
  go_enter Tryz.func76, Tryz.ntmps76
  go_wp2_with fail
  obtain ⟨V, hV⟩ : ∃ V, w.alloc (.cells #[.string ⟨#[]⟩, .slice none 0 0, .bool false, .int .i64 0, .int .i64 0, .int .i64 0, .bool false, .int .i64 0, .int .i64 0, .bool false] 91) = V := ⟨_, rfl⟩
  rw [hV] at bx hpl HB0 ⊢
  clear hV
  refine hpl.mono ?_
  rintro _ w1 ⟨rfl, hb1⟩
  have HB1 : Hid (Below w.heap.size w w1) := below_then HB0.out hb1
  have x1 := bx.below hb1
  have hlt : w.heap.size < w1.heap.size := (bx.below hb1).lt
  have cx := x1.cell
  have fx := x1.free
  clear hpl hb1 bx x1
  go_wp2_with fail
  refine bodyPost_ret ?_ rfl ⟨rfl, ?_⟩
  · simp [results, Tryz.results76, go_sem, cx, hlt]
  · refine Below.alloc ?_ (by simp; omega) _
    iterate 10 (refine Below.setCell ?_ (by exact Nat.le_refl _) _)
    exact HB1.out
end Go.Proofs.YtoijhecphgdfnaaGreatDoor

/-
  A box in memory; made, mayBring, refuse.
-/
namespace Go.Proofs.YtoijhecphgdfnaaGreatDoor
open Go.RowKit

/-- A text in memory: its own row, no longer than may be. -/
def Tx (w : World) (m : Msg) : Prop := BRow w 0 (.slice m.tp m.tn m.tc) m.tx ∧ m.tn ≤ 8192
/-- A box: its block b, its list's block kb, the list's slice v. -/
def Bx (w : World) (b kb : Nat) (v : Value) (sq : Bool) (tr : Int) (ms : List Msg) : Prop :=
  w.heap[b]? = some (.cells #[.pointer (some ⟨kb, 0, none⟩), .bool sq, .int .i64 tr] 113 (0, 0)) ∧ Kd w kb v ms ∧ ∀ m ∈ ms, Tx w m
theorem Tx.below {w w' : World} {m : Msg} (h : Tx w m) (hb : Below w.heap.size w w') : Tx w' m := ⟨ERow.below h.1 hb, h.2⟩
section
variable {w w' : World} {b kb : Nat} {v : Value} {sq : Bool} {tr : Int} {ms : List Msg}
theorem Bx.below (h : Bx w b kb v sq tr ms) (hb : Below w.heap.size w w') : Bx w' b kb v sq tr ms := ⟨(hb.block b (blk_lt h.1)).trans h.1, h.2.1.below hb, fun m hm => (h.2.2 m hm).below hb⟩
theorem Bx.lt (h : Bx w b kb v sq tr ms) : b < w.heap.size := blk_lt h.1
set_option maxHeartbeats 400000 in
theorem made_yes (h : Bx w b kb v sq tr ms) : Calls Tryz.prog 52 #[.pointer (some ⟨b, 0, none⟩)] w fun e w' => e = .returned (.bool true) ∧ w' = w := by
  have c0 := hcell h.1 0
  clear h
  go_enter Tryz.func52, Tryz.ntmps52
  go_wp2
  go_ret
  exact ⟨rfl, rfl⟩
/-- A box that nobody made. -/
def Un (w : World) (x : Value) : Prop := x = .pointer none ∨ ∃ b, x = .pointer (some ⟨b, 0, none⟩) ∧ w.cell? ⟨b, 0, none⟩ = some (.pointer none)
theorem Un.below {x : Value} (h : Un w x) (hb : Below w.heap.size w w') : Un w' x := by
  rcases h with h | ⟨b, h, hc⟩
  · exact Or.inl h
  · exact Or.inr ⟨b, h, by rw [hb.cell (p := ⟨b, 0, none⟩) (cell_lt hc)]; exact hc⟩
theorem Un.alloc {x : Value} (h : Un w x) (o : Obj) : Un (w.alloc o) x := h.below ((Below.refl _ _).alloc (Nat.le_refl _) _)
set_option maxHeartbeats 1000000 in
theorem mayBring_any (h : Bx w b kb v sq tr ms) (n : Int) : Calls Tryz.prog 79 #[.pointer (some ⟨b, 0, none⟩), .int .i64 n] w fun e w' => e = .returned (.bool (sq && decide (ms.length = 0) && nmB n)) ∧ w' = w := by
  have c0 := hcell h.1 0
  have c1 := hcell h.1 1
  have hc := count_any h.2.1
  have hn := isNumber_any n w
  obtain ⟨l, hl⟩ : ∃ l, ms.length = l := ⟨_, rfl⟩
  rw [hl] at hc ⊢
  clear h hl
  obtain ⟨q, hq⟩ : ∃ q, nmB n = q := ⟨_, rfl⟩
  rw [hq] at hn ⊢
  clear hq
  cases sq with
  | false =>
    go_enter Tryz.func79, Tryz.ntmps79
    go_wp2_with fail
    go_ret
    exact ⟨rfl, rfl⟩
  | true =>
    by_cases h0 : l = 0
    · subst h0
      cases q
      all_goals
        go_enter Tryz.func79, Tryz.ntmps79
        go_wp2_with (first | (go_at_call 53; refine hc.mono ?_; rintro _ w9 ⟨rfl, h9⟩; subst w9) | (go_at_call 57; refine hn.mono ?_; rintro _ w9 ⟨rfl, h9⟩; subst w9))
        go_ret
        exact ⟨rfl, rfl⟩
    · have h1 : ((l : Int) == 0) = false := by rw [beq_eq_false_iff_ne]; omega
      rw [decide_eq_false h0]
      clear h0
      go_enter Tryz.func79, Tryz.ntmps79
      go_wp2_with (first | (go_at_call 53; refine hc.mono ?_; rintro _ w9 ⟨rfl, h9⟩; subst w9))
      go_ret
      exact ⟨rfl, rfl⟩
end
end Go.Proofs.YtoijhecphgdfnaaGreatDoor

/-
  refuse.
-/
namespace Go.Proofs.YtoijhecphgdfnaaGreatDoor
open Go.RowKit

section
variable {w w' : World} {b kb : Nat} {v : Value} {sq : Bool} {tr : Int} {ms : List Msg}
theorem kfind_any (h : Kd w kb v ms) (s : ByteArray) : ∃ M : Msg, ∀ x, Below w.heap.size w x → Calls Tryz.prog 76 #[.pointer (some ⟨kb, 0, none⟩), .string s] x fun e x' => e = .returned (.tuple #[.agg #[.string M.ct, .slice M.tp M.tn M.tc, .bool M.e, .int .i64 M.a, .int .i64 M.p, .int .i64 M.nu, .bool M.nt, .int .i64 M.st, .int .i64 M.lf, .bool M.un], .bool (fi s ms).isSome]) ∧ Hid (Below w.heap.size w x' ∧ Below x.heap.size x x') := by
  cases hf : fi s ms with
  | some i =>
    obtain ⟨m, hm, _⟩ := fi_some hf
    exact ⟨m, fun x hx => (kfind_yes (h.below hx) s hf hm).mono fun _ _ ⟨h1, h2⟩ => ⟨h1, below_then hx h2, h2⟩⟩
  | none => exact ⟨zM, fun x hx => (kfind_no (h.below hx) s hf).mono fun _ _ ⟨h1, h2⟩ => ⟨h1, below_then hx h2, h2⟩⟩
set_option maxRecDepth 100000 in
set_option maxHeartbeats 4000000 in
theorem refuse_any (h : Bx w b kb v sq tr ms) (m : Msg) (hV : PVc w) : Calls Tryz.prog 44 #[.pointer (some ⟨b, 0, none⟩), .agg #[.string m.ct, .slice m.tp m.tn m.tc, .bool m.e, .int .i64 m.a, .int .i64 m.p, .int .i64 m.nu, .bool m.nt]] w fun e w' => e = .returned (.int .i64 (refS sq ms m)) ∧ Below w.heap.size w w' := by
  have bv : Below w.heap.size w (w.alloc (.cells #[.string m.ct, .slice m.tp m.tn m.tc, .bool m.e, .int .i64 m.a, .int .i64 m.p, .int .i64 m.nu, .bool m.nt] 58)) := (Below.refl _ _).alloc (Nat.le_refl _) _
  have bx := Box.new w #[.string m.ct, .slice m.tp m.tn m.tc, .bool m.e, .int .i64 m.a, .int .i64 m.p, .int .i64 m.nu, .bool m.nt] 58
  have HH : Hid (Bx (w.alloc (.cells #[.string m.ct, .slice m.tp m.tn m.tc, .bool m.e, .int .i64 m.a, .int .i64 m.p, .int .i64 m.nu, .bool m.nt] 58)) b kb v sq tr ms ∧ PVc (w.alloc (.cells #[.string m.ct, .slice m.tp m.tn m.tc, .bool m.e, .int .i64 m.a, .int .i64 m.p, .int .i64 m.nu, .bool m.nt] 58))) := ⟨h.below bv, hV.below bv⟩
  have hbl := h.lt
  clear h hV
  go_enter Tryz.func44, Tryz.ntmps44
  go_upto_region 1 with fail
  obtain ⟨V, hW⟩ : ∃ V, w.alloc (.cells #[.string m.ct, .slice m.tp m.tn m.tc, .bool m.e, .int .i64 m.a, .int .i64 m.p, .int .i64 m.nu, .bool m.nt] 58) = V := ⟨_, rfl⟩
  rw [hW] at bv bx HH ⊢
  clear hW
  have HB0 : Hid (Below w.heap.size w V) := bv
  have HX : Hid (Box V w.heap.size #[.string m.ct, .slice m.tp m.tn m.tc, .bool m.e, .int .i64 m.a, .int .i64 m.p, .int .i64 m.nu, .bool m.nt]) := bx
  obtain ⟨M, hM⟩ := kfind_any HH.out.1.2.1 m.ct
  have HM : Hid (∀ x, Below V.heap.size V x → Calls Tryz.prog 76 #[.pointer (some ⟨kb, 0, none⟩), .string m.ct] x fun e x' => e = .returned (.tuple #[.agg #[.string M.ct, .slice M.tp M.tn M.tc, .bool M.e, .int .i64 M.a, .int .i64 M.p, .int .i64 M.nu, .bool M.nt, .int .i64 M.st, .int .i64 M.lf, .bool M.un], .bool (fi m.ct ms).isSome]) ∧ Hid (Below V.heap.size V x' ∧ Below x.heap.size x x')) := hM
  have k0 := hcell HH.out.1.1 0
  have c0 : V.cell? ⟨w.heap.size, 0, none⟩ = some (.string m.ct) := bx.cell 0
  have hl1 : b < V.heap.size := HH.out.1.lt
  have hl2 : w.heap.size < V.heap.size := bx.lt
  obtain ⟨hs, hhs⟩ : ∃ q, (fi m.ct ms).isSome = q := ⟨_, rfl⟩
  rw [hhs] at HM
  clear hM bv bx
  go_cut [6] from 5 to 16 (fun t6 wx => t6 = .bool hs ∧ Hid (Below V.heap.size V wx))
  case first =>
    go_region_law (go_simp; go_at_call 76; refine (HM.out _ ?_).mono ?_; (repeat' (first | exact Below.refl _ _ | exact Hid.out (by assumption) | refine bl_alloc ?_ _ | refine Below.drew ?_)); rintro _ w5 ⟨rfl, hh5⟩; have hb5 : Hid (Below V.heap.size V w5) := hh5.out.1; have hc5 := (held_of hh5.out.2).cell; have hf5 := (held_of hh5.out.2).froz; have hz5 := (held_of hh5.out.2).size; go_wp2_with fail)
    all_goals
      go_wp2_with fail
      go_meet
      refine ⟨rfl, ?_⟩
      unfold Hid
      first
        | ((with_reducible refine bl_alloc ?_ _); exact Hid.out (by assumption))
        | ((iterate 10 (refine Below.setCell ?_ (by exact Nat.le_refl _) _)); exact Hid.out (by assumption))
  case rest =>
    obtain ⟨rfl, HC⟩ := hcut
    have HB1 : Hid (Below w.heap.size w wc) := below_then HB0.out HC.out
    have x1 := HX.out.below HC.out
    have HH1 : Hid (Bx wc b kb v sq tr ms ∧ PVc wc) := ⟨HH.out.1.below HC.out, HH.out.2.below HC.out⟩
    have cx := x1.cell
    have hct := isControl_any m.ct wc
    have HX1 : Hid (Box wc w.heap.size #[.string m.ct, .slice m.tp m.tn m.tc, .bool m.e, .int .i64 m.a, .int .i64 m.p, .int .i64 m.nu, .bool m.nt]) := x1
    have HS : Hid ((fi m.ct ms).isSome = hs) := hhs
    clear HM k0 c0 hl1 hl2 HX HH HC HB0 hbl x1 hhs M
    cases hq : ctB m.ct with
    | false =>
      rw [hq] at hct
      have HE : Hid (refS sq ms m = 280) := by unfold Hid refS; rw [if_pos hq]
      clear hq
      go_wp2_with fail
      refine hct.mono ?_
      rintro _ w2 ⟨rfl, hb2⟩
      have HB2 : Hid (Below w.heap.size w w2) := below_then HB1.out hb2
      clear hb2 hct cx
      go_wp2_with fail
      go_ret
      exact ⟨ret_int HE.out.symm, HB2.out⟩
    | true =>
      rw [hq] at hct
      go_wp2_with fail
      refine hct.mono ?_
      rintro _ w2 ⟨rfl, hb2⟩
      have HB2 : Hid (Below w.heap.size w w2) := below_then HB1.out hb2
      have cx2 := (HX1.out.below hb2).cell
      have HH2 : Hid (Bx w2 b kb v sq tr ms ∧ PVc w2) := ⟨HH1.out.1.below hb2, HH1.out.2.below hb2⟩
      have HX2 : Hid (Box w2 w.heap.size #[.string m.ct, .slice m.tp m.tn m.tc, .bool m.e, .int .i64 m.a, .int .i64 m.p, .int .i64 m.nu, .bool m.nt]) := HX1.out.below hb2
      have HQ : Hid (ctB m.ct = true) := hq
      clear hb2 hct cx HX1 HH1 HB1 hq
      cases hs with
      | true =>
        have HE : Hid (refS sq ms m = 6) := by unfold Hid refS; rw [HQ.out, HS.out]; rfl
        go_wp2_with fail
        go_ret
        exact ⟨ret_int HE.out.symm, HB2.out⟩
      | false =>
        by_cases h0 : m.tn = 0
        · have HE : Hid (refS sq ms m = 4) := by unfold Hid refS; rw [HQ.out, HS.out, h0]; rfl
          have g0 : ((m.tn : Int) == 0) = true := by rw [h0]; rfl
          clear h0
          go_wp2_with fail
          go_ret
          exact ⟨ret_int HE.out.symm, HB2.out⟩
        · have g0 : ((m.tn : Int) == 0) = false := by rw [beq_eq_false_iff_ne]; omega
          by_cases h1 : 8192 < m.tn
          · have HE : Hid (refS sq ms m = 4) := by unfold Hid refS; rw [HQ.out, HS.out, decide_eq_true h1, Bool.or_true]; rfl
            have g1 : (m.tn : Int) > 8192 := by omega
            clear h0 h1
            go_wp2_with fail
            go_ret
            exact ⟨ret_int HE.out.symm, HB2.out⟩
          · have HE1 : Hid ((decide (m.tn = 0) || decide (8192 < m.tn)) = false) := by unfold Hid; rw [decide_eq_false h0, decide_eq_false h1]; rfl
            have g1 : ¬ (m.tn : Int) > 8192 := by omega
            have har := areRight_any m.e m.a m.p m.nt w2 HH2.out.2
            clear h0 h1
            obtain ⟨r, hr⟩ : ∃ r, (okB m.e m.a m.p && (caB m.e m.a || !m.nt)) = r := ⟨_, rfl⟩
            rw [hr] at har
            have HR : Hid ((okB m.e m.a m.p && (caB m.e m.a || !m.nt)) = r) := hr
            clear hr
            go_wp2_with fail
            refine har.mono ?_
            rintro _ w3 ⟨rfl, hb3⟩
            have HB3 : Hid (Below w.heap.size w w3) := below_then HB2.out hb3
            have cx3 := (HX2.out.below hb3).cell
            have HH3 : Hid (Bx w3 b kb v sq tr ms) := HH2.out.1.below hb3
            clear hb3 har cx2 HX2 HH2 HB2
            cases r with
            | false =>
              have HE : Hid (refS sq ms m = 220) := by unfold Hid refS; rw [HQ.out, HS.out, HE1.out, HR.out]; rfl
              go_wp2_with fail
              go_ret
              exact ⟨ret_int HE.out.symm, HB3.out⟩
            | true =>
              by_cases h2 : m.nu = 0
              · have HE : Hid (refS sq ms m = 0) := by unfold Hid refS; rw [HQ.out, HS.out, HE1.out, HR.out, h2]; rfl
                have g2 : (m.nu != 0) = false := by rw [h2]; rfl
                clear h2
                go_wp2_with fail
                go_ret
                exact ⟨ret_int HE.out.symm, HB3.out⟩
              · have g2 : (m.nu != 0) = true := by simpa using h2
                have hmb := mayBring_any HH3.out m.nu
                obtain ⟨y, hy⟩ : ∃ y, (sq && decide (ms.length = 0) && nmB m.nu) = y := ⟨_, rfl⟩
                rw [hy] at hmb
                have HE : Hid (refS sq ms m = if y = true then 0 else 282) := by unfold Hid refS; rw [HQ.out, HS.out, HE1.out, HR.out, decide_eq_true h2, hy]; cases y <;> rfl
                clear h2 hy
                cases y
                all_goals
                  go_wp2_with fail
                  refine hmb.mono ?_
                  rintro _ w9 ⟨rfl, h9⟩
                  subst w9
                  go_wp2_with fail
                  go_ret
                  exact ⟨ret_int HE.out.symm, HB3.out⟩
end
end Go.Proofs.YtoijhecphgdfnaaGreatDoor
