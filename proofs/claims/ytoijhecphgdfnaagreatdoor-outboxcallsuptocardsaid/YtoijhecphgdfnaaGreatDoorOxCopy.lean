import Derived.Test.YtoijhecphgdfnaaGreatDoorDcPi
import Derived.Test.YtoijhecphgdfnaaGreatDoorDcPp
import Derived.Test.YtoijhecphgdfnaaGreatDoorDcPd
import Derived.Lib.ConvBytes
import Derived.Lib.SliceRun
/-
  The program's Take, Judge, Copy.
-/
namespace Go.Proofs.YtoijhecphgdfnaaGreatDoor
open Go.RowKit

end Go.Proofs.YtoijhecphgdfnaaGreatDoor

/-
  The program's calls answer as the document does.
-/
namespace Go.Proofs.YtoijhecphgdfnaaGreatDoor
open Go.RowKit

theorem err_no {e : Bool} {a p : Int} (ok : okB e a p = false) : errN e a p = 220 := by unfold errN; rw [ok]; rfl
theorem err_ok {e : Bool} {a p : Int} (ok : okB e a p = true) : errN e a p = 0 := by unfold errN; rw [ok]; rfl
theorem wB_text (x : Nat) (hx : x < 4) : wB x = textB true x := by
  rcases (by omega : x = 0 ∨ x = 1 ∨ x = 2 ∨ x = 3) with rfl | rfl | rfl | rfl <;> rfl
theorem word_empty {s : ByteArray} (h : s.toList.isEmpty = true) : wordK s = true := by unfold wordK; rw [h]; rfl
theorem may_ok (e : Bool) (a p : Int) (s : ByteArray) (w : World) (hV : PVc w) : Calls Tryz.prog 101 #[.agg #[.bool e, .int .i64 a, .int .i64 p], .string s] w fun r w' => ∃ ev, r = .returned (.tuple #[.bool (okB e a p && sentB e a p s), ev]) ∧ Ev w' ev 0 (errN e a p) ∧ Below w.heap.size w w' := by
  cases ok : okB e a p with
  | false => rw [err_no ok]; exact (May_no e a p s w ok).mono fun _ _ ⟨z, g1, g2, g3⟩ => ⟨_, g1, ev_no g2 (by decide), g3⟩
  | true => rw [err_ok ok]; exact (May_ok e a p s w hV ok).mono fun _ _ ⟨g1, g3⟩ => ⟨_, g1, ev_ok _ _, g3⟩
theorem pans2E {w : World} {r : Ending} {w' : World} {cd : Int} (hc : cd ≠ 0) (h : ∃ z, r = .returned (.tuple #[.agg #[.bool false, .string ⟨#[]⟩], .slice none 0 0, .iface 122 (.pointer (some ⟨z, 0, none⟩))]) ∧ DFault w' z 0 cd ∧ Below w.heap.size w w') : PAns2Q ⟨false, nT, [], cd⟩ w r w' := by
  obtain ⟨z, h1, h2, h3⟩ := h
  exact ⟨_, _, h1, ActRow.nil _ _, ev_no h2 hc, h3⟩
theorem pans2 {d : Bool} {c : ByteArray} {l : ActL} {w : World} {r : Ending} {w' : World} {n : Nat} (hn : l.length = n) (h : ∃ po cap, r = .returned (.tuple #[.agg #[.bool d, .string c], .slice po n cap, .nilIface]) ∧ ActRow w' w.heap.size (.slice po n cap) l ∧ Below w.heap.size w w') : PAns2Q ⟨d, c, l, 0⟩ w r w' := by
  subst hn
  obtain ⟨po, cap, h1, h2, h3⟩ := h
  exact ⟨_, _, h1, h2, ev_ok _ _, h3⟩
end Go.Proofs.YtoijhecphgdfnaaGreatDoor

/-
  The box's leaves: numbers, control ids, conditions, a message copied, found.
-/
namespace Go.Proofs.YtoijhecphgdfnaaGreatDoor
open Go.RowKit

set_option maxHeartbeats 400000 in
theorem isNumber_any (n : Int) (w : World) : Calls Tryz.prog 57 #[.int .i64 n] w fun e w' => e = .returned (.bool (nmB n)) ∧ w' = w := by
  go_enter Tryz.func57, Tryz.ntmps57
  go_wp2
  all_goals (go_ret; exact ⟨ret_bool (by unfold nmB; rw [Bool.eq_iff_iff]; simp; try omega), rfl⟩)
set_option maxHeartbeats 1000000 in
theorem isCB_any (c : Int) (w : World) : Calls Tryz.prog 100 #[.int .u8 c] w fun e w' => e = .returned (.bool (cbB c)) ∧ w' = w := by
  go_enter Tryz.func100, Tryz.ntmps100
  go_wp2
  all_goals (go_ret; exact ⟨ret_bool (by unfold cbB; rw [Bool.eq_iff_iff]; simp; try (first | omega | (intros; omega))), rfl⟩)
set_option maxRecDepth 100000 in
set_option maxHeartbeats 2000000 in
theorem isControl_any (s : ByteArray) (w : World) : Calls Tryz.prog 77 #[.string s] w fun e w' => e = .returned (.bool (ctB s)) ∧ Below w.heap.size w w' := by
  by_cases h0 : s.size = 0
  · have e0 : ctB s = false := by unfold ctB; rw [h0]; rfl
    rw [e0]
    have h2 : ((s.size : Int) == 0) = true := by rw [h0]; rfl
    go_enter Tryz.func77, Tryz.ntmps77
    go_wp2
    go_ret
    exact ⟨rfl, Below.refl _ _⟩
  have h2 : ((s.size : Int) == 0) = false := by rw [beq_eq_false_iff_ne]; omega
  by_cases h18 : 18 < s.size
  · have e0 : ctB s = false := by unfold ctB; rw [decide_eq_false (show ¬ s.size ≤ 18 by omega)]; simp
    rw [e0]
    have h3 : (s.size : Int) > 18 := by omega
    go_enter Tryz.func77, Tryz.ntmps77
    go_wp2
    go_ret
    exact ⟨rfl, Below.refl _ _⟩
  have h3 : ¬ (s.size : Int) > 18 := by omega
  have hcv : (convert 9 43 (.string s)).run Tryz.prog w = _ := Lib.run_convert_string_bytes _ 9 43 5 s Tryz.underlying9 Tryz.underlying43 Tryz.underlying5
  have hc2 := fun j hj => Lib.bytesWorld_cell w 5 s j hj
  have hb2 : Below w.heap.size w (Lib.bytesWorld w 5 s) := ⟨rfl, rfl, rfl, by rw [Lib.bytesWorld_size]; omega, fun k hk => Lib.bytesWorld_at_old w _ s k hk⟩
  obtain ⟨W2, hW2⟩ : ∃ W2, Lib.bytesWorld w 5 s = W2 := ⟨_, rfl⟩
  rw [hW2] at hcv hc2 hb2
  obtain ⟨cap, hcap⟩ : ∃ c, grownCap w s.size 0 5 = c := ⟨_, rfl⟩
  rw [hcap] at hcv
  obtain ⟨n, hn⟩ : ∃ n, s.size = n := ⟨_, rfl⟩
  have HN : Hid (s.data.toList.length = n) := by unfold Hid; rw [← hn]; rfl
  have HE : Hid (ctB s = s.data.toList.all (fun c => cbB (c.toNat : Int))) := by
    unfold ctB; rw [decide_eq_true (show 1 ≤ s.size by omega), decide_eq_true (show s.size ≤ 18 by omega)]; rfl
  rw [hn] at hcv h0 h18 h2 h3 hc2
  have HC : Hid (∀ j, j < n → W2.cell? ⟨w.heap.size, j, none⟩ = some (.int .u8 (s.data.toList.getD j 0).toNat)) := hc2
  have HB : Hid (Below w.heap.size w W2) := hb2
  have hsz : (s.size : Int) = n := by rw [hn]
  clear hW2 hcap hc2 hb2 hn
  go_enter Tryz.func77, Tryz.ntmps77
  go_wp2_with fail
  go_loopw [16] (fun t wx => ∃ i : Nat, i ≤ n ∧ t = .int .i64 i ∧ wx = W2 ∧ Hid ((s.data.toList.take i).all (fun c => cbB (c.toNat : Int)) = true)) (fun t _ => n - (intOf t).toNat)
  case atStart => exact ⟨0, Nat.zero_le _, rfl, rfl, rfl⟩
  case round =>
    obtain ⟨i, hi, rfl, rfl, HA⟩ := hrel
    by_cases hlt : i < n
    · have hlt1 : (i : Int) < n := by omega
      have ci := HC.out i hlt
      obtain ⟨b, hb⟩ : ∃ b, s.data.toList.getD i 0 = b := ⟨_, rfl⟩
      rw [hb] at ci
      have hil : i < s.data.toList.length := by rw [HN.out]; exact hlt
      have hgt : s.data.toList[i]'hil = b := by rw [← hb, List.getD_eq_getElem?_getD, List.getElem?_eq_getElem hil]; rfl
      have HB1 : Hid (s.data.toList[i]'hil = b) := hgt
      clear hb hgt
      cases hc : cbB (b.toNat : Int) with
      | true =>
        have hcb := isCB_any (b.toNat : Int) wr
        rw [hc] at hcb
        have HH : Hid (cbB (b.toNat : Int) = true) := hc
        clear hc
        go_wp2_with fail
        refine hcb.mono ?_
        rintro _ w9 ⟨rfl, h9⟩
        subst w9
        go_wp2_with fail
        go_roundw
        case rel =>
          refine ⟨i + 1, hlt, by go_num, by trivial, ?_⟩
          unfold Hid
          rw [List.take_succ_eq_append_getElem hil, List.all_append, HA.out, HB1.out]
          simp [HH.out]
        case measure => simp [intOf]; omega
      | false =>
        have hcb := isCB_any (b.toNat : Int) wr
        rw [hc] at hcb
        have HH : Hid (ctB s = false) := by
          unfold Hid
          rw [HE.out, List.all_eq_false]
          exact ⟨s.data.toList[i]'hil, List.getElem_mem hil, by rw [HB1.out, hc]; simp⟩
        clear hc
        go_wp2_with fail
        refine hcb.mono ?_
        rintro _ w9 ⟨rfl, h9⟩
        subst w9
        go_wp2_with fail
        go_ret
        exact ⟨ret_bool HH.out.symm, HB.out⟩
    · have hlt1 : ¬ (i : Int) < n := by omega
      have HH : Hid (ctB s = true) := by
        unfold Hid
        rw [HE.out, ← HA.out, List.take_of_length_le (by rw [HN.out]; omega)]
      go_wp2_with fail
      go_ret
      exact ⟨ret_bool HH.out.symm, HB.out⟩
set_option maxHeartbeats 1000000 in
theorem areRight_any (e : Bool) (a p : Int) (nt : Bool) (w : World) (hV : PVc w) : Calls Tryz.prog 78 #[.agg #[.bool e, .int .i64 a, .int .i64 p], .bool nt] w fun r w' => r = .returned (.bool (okB e a p && (caB e a || !nt))) ∧ Below w.heap.size w w' := by
  have bv : Below w.heap.size w (w.alloc (.cells #[.bool e, .int .i64 a, .int .i64 p] 45)) := (Below.refl _ _).alloc (Nat.le_refl _) _
  have hm := may_ok e a p ⟨#[67, 65]⟩ (w.alloc (.cells #[.bool e, .int .i64 a, .int .i64 p] 45)) (hV.below bv)
  rw [sent_1] at hm
  have HB : Hid (Below w.heap.size w (w.alloc (.cells #[.bool e, .int .i64 a, .int .i64 p] 45))) := bv
  clear bv hV
  cases ok : okB e a p with
  | true =>
    rw [err_ok ok, ok] at hm
    clear ok
    cases hc : caB e a <;> cases nt
    all_goals
      rw [hc] at hm
      clear hc
      go_enter Tryz.func78, Tryz.ntmps78
      go_wp2_with fail
      refine hm.mono ?_
      rintro _ w1 ⟨ev, rfl, hev, hb⟩
      rcases hev with ⟨rfl, _⟩ | ⟨h, _⟩
      · have HB1 : Hid (Below w.heap.size w w1) := below_then HB.out hb
        clear hb hm
        go_wp2_with fail
        go_ret
        exact ⟨rfl, HB1.out⟩
      · exact absurd rfl h
  | false =>
    rw [err_no ok, ok] at hm
    clear ok
    go_enter Tryz.func78, Tryz.ntmps78
    go_wp2_with fail
    refine hm.mono ?_
    rintro _ w1 ⟨ev, rfl, hev, hb⟩
    rcases hev with ⟨_, h⟩ | ⟨_, z, rfl, _⟩
    · cases h
    · have HB1 : Hid (Below w.heap.size w w1) := below_then HB.out hb
      clear hb hm
      go_wp2_with fail
      go_ret
      exact ⟨rfl, HB1.out⟩
end Go.Proofs.YtoijhecphgdfnaaGreatDoor

/-
  Texts: bytes that lie somewhere, rows of bytes; a message copied.
-/
namespace Go.Proofs.YtoijhecphgdfnaaGreatDoor
open Go.RowKit

/-- The bytes that a byte string holds. -/
structure Byts (w : World) (po : Option Addr) (n : Nat) (bs : List Int) : Prop where
  len : bs.length = n
  cell : ∀ j, j < n → ∃ b o, po = some ⟨b, o, none⟩ ∧ b < w.heap.size ∧ w.cell? ⟨b, o + j, none⟩ = some (.int .u8 (bs.getD j 0))
theorem Byts.off {P : Nat → Prop} {w w' : World} {po : Option Addr} {n : Nat} {bs : List Int} (h : Byts w po n bs) (ho : Off P w w') (hP : ∀ b o, po = some ⟨b, o, none⟩ → b < w.heap.size → ¬ P b) : Byts w' po n bs :=
  ⟨h.len, fun j hj => by
    obtain ⟨b, o, e, hl, hc⟩ := h.cell j hj
    exact ⟨b, o, e, Nat.lt_of_lt_of_le hl ho.size, by rw [ho.cell (p := ⟨b, o + j, none⟩) hl (hP b o e hl)]; exact hc⟩⟩
theorem Byts.below {w w' : World} {po : Option Addr} {n : Nat} {bs : List Int} (h : Byts w po n bs) (hb : Below w.heap.size w w') : Byts w' po n bs := h.off (P := fun _ => False) (Off.of_below hb) (fun _ _ _ _ => id)
def encB (z : Int) : List Value := [.int .u8 z]
theorem encB_len (z : Int) : (encB z).length = 1 := rfl
theorem encB_one (z : Int) : ∀ u ∈ encB z, u.oneCell' = true := fun u hu => by
  simp only [encB, List.mem_cons, List.not_mem_nil, or_false] at hu; rw [hu]; rfl
theorem celB : Cel Tryz.prog 5 1 1 := cel_of (by kernel_rfl)
theorem flatB (bs : List Int) {j : Nat} {u : Value} (h : (bs.flatMap encB)[j]? = some u) : j < bs.length ∧ u = .int .u8 (bs.getD j 0) := by
  have hj : j < bs.length := by
    have := (List.getElem?_eq_some_iff.1 h).1
    rwa [flat_len encB_len, Nat.mul_one] at this
  refine ⟨hj, ?_⟩
  have := flat_get encB_len bs j bs[j] 0 (List.getElem?_eq_getElem hj) (by decide)
  rw [Nat.mul_one, Nat.add_zero, h] at this
  simp only [encB, List.getElem?_cons_zero, Option.some.injEq] at this
  rw [this, List.getD_eq_getElem?_getD, List.getElem?_eq_getElem hj]
  rfl
/-- A text of one's own. -/
def BRow (w : World) (B : Nat) (v : Value) (bs : List Int) : Prop := ERow w B 5 1 encB v bs
theorem BRow.byts {w : World} {B : Nat} {a : Option Addr} {n c : Nat} {bs : List Int} (h : BRow w B (.slice a n c) bs) : Byts w a n bs := by
  refine ⟨(ERow.len h).symm, fun j hj => ?_⟩
  have hn := ERow.len h
  obtain ⟨g, e, hl, hc⟩ := ERow.at_ encB_len h (List.getElem?_eq_getElem (l := bs) (i := j) (by omega))
  refine ⟨g, 0, e, hl, ?_⟩
  have := hc 0 (by decide)
  rw [Nat.mul_one, Nat.add_zero] at this
  have hjl : j < bs.length := by omega
  rw [Nat.zero_add, this, List.getD_eq_getElem?_getD, List.getElem?_eq_getElem hjl]
  rfl
theorem BRow.nilcap {w : World} {B : Nat} {a : Option Addr} {n c : Nat} {bs : List Int} (h : BRow w B (.slice a n c) bs) : a = none → c = 0 := fun e => by
  rcases ERow.form h with ⟨e1, _⟩ | ⟨g, cap, e1, _⟩
  · simp only [Value.slice.injEq] at e1; exact e1.2.2
  · simp only [Value.slice.injEq] at e1; rw [e1.1] at e; cases e
theorem erow_empty (w : World) (B : Nat) (hB : B ≤ w.heap.size) : BRow (w.alloc (.cells #[] 5)) B (.slice (some ⟨w.heap.size, 0, none⟩) 0 0) [] :=
  ⟨rfl, Or.inr ⟨w.heap.size, 0, #[], rfl, hB, heap_alloc_new _ _, Nat.le_refl _, Nat.zero_le _, rfl, rfl⟩⟩
set_option maxRecDepth 100000 in
set_option maxHeartbeats 1000000 in
theorem clone_any {po : Option Addr} {m c : Nat} {bs : List Int} (w : World) (hb : Byts w po m bs) (hpo : po = none → c = 0) (hm : m ≤ 1000000) :
    Calls Tryz.prog 81 #[.slice po m c] w fun e w' => ∃ a k, e = .returned (.slice a m k) ∧ BRow w' w.heap.size (.slice a m k) bs ∧ Below w.heap.size w w' := by
  have q1 : ∀ (w : World) (a : Option Addr) (n c n' c' : Nat), (binOp .eql 43 (.slice a n c) (.slice none n' c')).run Tryz.prog w = .ok (.bool a.isNone) w := fun w a n c n' c' => Lib.run_eql_slice_nil w 43 5 a n c n' c' Tryz.underlying43
  have hlen := hb.len
  cases po with
  | none =>
    have hm0 : m = 0 := by
      rcases Nat.eq_zero_or_pos m with g | g
      · exact g
      · obtain ⟨_, _, e, _⟩ := hb.cell 0 g; cases e
    subst hm0
    obtain rfl : bs = [] := List.eq_nil_of_length_eq_zero hb.len
    obtain rfl := hpo rfl
    clear hb hpo hlen
    go_enter Tryz.func81, Tryz.ntmps81
    go_wp2_with fail
    go_ret
    exact ⟨none, 0, rfl, ERow.nil _ _ _ _ _, Below.refl _ _⟩
  | some a =>
    have ho : Off (fun _ => False) w (w.alloc (.cells #[] 5)) := (Off.refl _ _).alloc _
    have hbb := hb.off ho (fun _ _ _ _ => id)
    obtain ⟨a', c', w', hr, r1, o1, b1⟩ := run_eapp (P := Tryz.prog) (t := 43) (w := w.alloc (.cells #[] 5)) Tryz.underlying43 celB encB_len encB_one (erow_empty w w.heap.size (Nat.le_refl _)) (ys := bs) (n := m) (a := some a) (c := c) hlen.symm (fun e => by cases e) (fun a1 e1 j u hu => by
      cases e1
      obtain ⟨hj, rfl⟩ := flatB bs hu
      obtain ⟨b, o, e, _, hc⟩ := hbb.cell j (by omega)
      obtain rfl : a = ⟨b, o, none⟩ := by simpa using e
      rw [Addr.add_lit]; exact hc) (by simp; omega) (by omega) (by simp)
    simp only [List.length_nil, Nat.zero_add, hlen, List.nil_append] at hr r1
    have HE : Hid (BRow w' w.heap.size (.slice a' m c') bs ∧ Below w.heap.size w w') := ⟨r1, (ho.below (Nat.le_refl _) (fun _ g => g.elim)).trans (o1.below ho.size (fun k e => by simp [Value.ownBlock] at e; omega))⟩
    clear hb r1 o1 b1 ho hbb hlen
    go_enter Tryz.func81, Tryz.ntmps81
    go_wp2_with (at_builtin; refine wpList_append_run rfl (.tmp 5) (.tmp 6) 43 _ rfl hr ?_)
    go_ret
    exact ⟨a', c', rfl, HE.out.1, HE.out.2⟩
/-- A message with its text elsewhere. -/
abbrev Msg.wi (m : Msg) (a : Option Addr) (c : Nat) : Msg := { m with tp := a, tc := c }
set_option maxRecDepth 100000 in
set_option maxHeartbeats 1000000 in
theorem copied_any (m : Msg) (w : World) (hb : Byts w m.tp m.tn m.tx) (hpo : m.tp = none → m.tc = 0) (hm : m.tn ≤ 1000000) :
    Calls Tryz.prog 55 #[.agg #[.string m.ct, .slice m.tp m.tn m.tc, .bool m.e, .int .i64 m.a, .int .i64 m.p, .int .i64 m.nu, .bool m.nt, .int .i64 m.st, .int .i64 m.lf, .bool m.un]] w fun e w' => ∃ a c, e = .returned (.agg #[.string m.ct, .slice a m.tn c, .bool m.e, .int .i64 m.a, .int .i64 m.p, .int .i64 m.nu, .bool m.nt, .int .i64 m.st, .int .i64 m.lf, .bool m.un]) ∧ BRow w' w.heap.size (.slice a m.tn c) m.tx ∧ Below w.heap.size w w' := by
  have bv : Below w.heap.size w ((w.alloc (.cells #[.string m.ct, .slice m.tp m.tn m.tc, .bool m.e, .int .i64 m.a, .int .i64 m.p, .int .i64 m.nu, .bool m.nt, .int .i64 m.st, .int .i64 m.lf, .bool m.un] 91)).alloc (.cells #[.string ⟨#[]⟩, .slice none 0 0, .bool false, .int .i64 0, .int .i64 0, .int .i64 0, .bool false, .int .i64 0, .int .i64 0, .bool false] 91)) := ((Below.refl _ _).alloc (Nat.le_refl _) _).alloc (by simp) _
  have bx := (Box.new w #[.string m.ct, .slice m.tp m.tn m.tc, .bool m.e, .int .i64 m.a, .int .i64 m.p, .int .i64 m.nu, .bool m.nt, .int .i64 m.st, .int .i64 m.lf, .bool m.un] 91).alloc (.cells #[.string ⟨#[]⟩, .slice none 0 0, .bool false, .int .i64 0, .int .i64 0, .int .i64 0, .bool false, .int .i64 0, .int .i64 0, .bool false] 91)
  have by_ := Box.new (w.alloc (.cells #[.string m.ct, .slice m.tp m.tn m.tc, .bool m.e, .int .i64 m.a, .int .i64 m.p, .int .i64 m.nu, .bool m.nt, .int .i64 m.st, .int .i64 m.lf, .bool m.un] 91)) #[.string ⟨#[]⟩, .slice none 0 0, .bool false, .int .i64 0, .int .i64 0, .int .i64 0, .bool false, .int .i64 0, .int .i64 0, .bool false] 91
  rw [World.size_alloc] at by_
  have hc := clone_any _ (hb.below bv) hpo hm
  have HB0 : Hid (Below w.heap.size w ((w.alloc (.cells #[.string m.ct, .slice m.tp m.tn m.tc, .bool m.e, .int .i64 m.a, .int .i64 m.p, .int .i64 m.nu, .bool m.nt, .int .i64 m.st, .int .i64 m.lf, .bool m.un] 91)).alloc (.cells #[.string ⟨#[]⟩, .slice none 0 0, .bool false, .int .i64 0, .int .i64 0, .int .i64 0, .bool false, .int .i64 0, .int .i64 0, .bool false] 91))) := bv
  clear bv hb hpo hm
  go_enter Tryz.func55, Tryz.ntmps55
  go_wp2_with fail
  obtain ⟨V, hV⟩ : ∃ V, ((w.alloc (.cells #[.string m.ct, .slice m.tp m.tn m.tc, .bool m.e, .int .i64 m.a, .int .i64 m.p, .int .i64 m.nu, .bool m.nt, .int .i64 m.st, .int .i64 m.lf, .bool m.un] 91)).alloc (.cells #[.string ⟨#[]⟩, .slice none 0 0, .bool false, .int .i64 0, .int .i64 0, .int .i64 0, .bool false, .int .i64 0, .int .i64 0, .bool false] 91)) = V := ⟨_, rfl⟩
  rw [hV] at bx by_ hc HB0 ⊢
  have hz : V.heap.size = w.heap.size + 1 + 1 := by rw [← hV]; simp
  have HZ : Hid (V.heap.size = w.heap.size + 1 + 1) := hz
  clear hV hz
  refine hc.mono ?_
  rintro _ w1 ⟨a, c, rfl, hr, hb1⟩
  have HE : Hid (∀ W', Off (fun q => q = w.heap.size ∨ q = w.heap.size + 1) w1 W' → BRow W' w.heap.size (.slice a m.tn c) m.tx ∧ Below w.heap.size w W') := fun W' ho => by
    have hz := HZ.out
    refine ⟨ERow.base (ERow.off hr ho fun g hg hp => ?_) (by omega), (below_then HB0.out hb1).trans (ho.below (Nat.le_trans HB0.out.size hb1.size) fun k hk => by omega)⟩
    have := (ERow.lt hr hg).1
    omega
  have x1 := bx.below hb1
  have y1 := by_.below hb1
  have cx := x1.cell
  have cy := y1.cell
  have fx := x1.free
  have fy := y1.free
  clear hr hb1 hc bx by_ x1 y1
  go_wp2_with fail
  refine bodyPost_ret ?_ rfl ⟨a, c, rfl, HE.out _ ?_⟩
  · simp [results, Tryz.results55, go_sem, cy]
  · iterate 11 (refine Off.setCell ?_ (by first | exact Or.inl rfl | exact Or.inr rfl) _)
    exact Off.refl _ _
end Go.Proofs.YtoijhecphgdfnaaGreatDoor
