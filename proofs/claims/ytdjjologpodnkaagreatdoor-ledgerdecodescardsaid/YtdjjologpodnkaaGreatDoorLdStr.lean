/-
  Strings read into their places.
-/
import Derived.Test.YtdjjologpodnkaaGreatDoorLdByt
namespace Go.Proofs.YtdjjologpodnkaaGreatDoor
open Go.RowKit

theorem strOf_size (l : List Int) : (strOf l).size = l.length := by
  have key : ∀ (l : List Int) (r : ByteArray), (l.foldl (fun r n => r.push (UInt8.ofNat n.toNat)) r).size = r.size + l.length := by
    intro l
    induction l with
    | nil => intro r; rfl
    | cons a l ih => intro r; rw [List.foldl_cons, ih, ByteArray.size_push, List.length_cons]; omega
  unfold strOf
  rw [key]
  simp
def rStr (K : ByteArray → Bool) (bs : List Int) (p : Nat) (lo hi : Int) : Except Nat ByteArray :=
  match rTxt bs p lo hi with
  | .error e => .error e
  | .ok l => if K (strOf l) = true then .ok (strOf l) else .error (p + 4)
def StrRQ (K : ByteArray → Bool) (w : World) (fb rb o : Nat) (po : Option Addr) (c : Nat) (bs : List Int) (p : Nat) (lo hi : Int) (r : Ending) (w' : World) : Prop :=
  (∃ e, rStr K bs p lo hi = .error e ∧ r = gaveUp e ∧ Off (fun q => q = fb) w w') ∨
  (∃ s m W1, rStr K bs p lo hi = .ok s ∧ s.size = m ∧ r = .returned (.tuple #[]) ∧ Rdr W1 fb po c bs (p + 4 + m) ∧ Off (fun q => q = fb) w W1 ∧ w' = W1.setCell ⟨rb, o, none⟩ (.string s))
set_option maxRecDepth 100000 in
set_option maxHeartbeats 2000000 in
theorem str_read_f (F : FuncId) (K : ByteArray → Bool) (hen : ∀ (args : Array Value) (x : World), (callFunc F args).run Tryz.prog x = .ok (.enter F args) x) (hK : ∀ s w, Calls Tryz.prog F #[.string s] w fun e w' => e = .returned (.bool (K s)) ∧ Below w.heap.size w w') {w : World} {fb rb o : Nat} {po : Option Addr} {c : Nat} {bs : List Int} {p : Nat} (h : Rdr w fb po c bs p) (lo hi : Int) (hlo : 0 ≤ lo) (hhi : 0 ≤ hi) (hlo2 : lo ≤ 1000000) (hhi2 : hi ≤ 1000000) (hu : Cel1 w rb o) (hrf : rb ≠ fb) :
    Calls Tryz.prog 132 #[.agg #[.pointer (some ⟨rb, o, none⟩), .int .i64 lo, .int .i64 hi, fv F], .pointer (some ⟨fb, 0, none⟩)] w (StrRQ K w fb rb o po c bs p lo hi) := by
  have bv := (Below.refl w.heap.size w).alloc (Nat.le_refl _) (.cells #[.pointer (some ⟨rb, o, none⟩), .int .i64 lo, .int .i64 hi, fv F] 139)
  have bx := Box.new w #[.pointer (some ⟨rb, o, none⟩), .int .i64 lo, .int .i64 hi, fv F] 139
  obtain ⟨⟨u, hu1⟩, hu2⟩ := hu
  have hul : rb < w.heap.size := cell_lt hu1
  have hfb : fb < w.heap.size := h.box.lt
  have ht := takeNumber_any (h.below bv) 4 (by omega) lo hi hlo hhi (by omega) (by omega)
  have cx := bx.cell
  have HX : Hid (∀ z, Off (fun q => q = fb) (w.alloc (.cells #[.pointer (some ⟨rb, o, none⟩), .int .i64 lo, .int .i64 hi, fv F] 139)) z → (∀ q, z.cell? ⟨w.heap.size, q, none⟩ = (#[.pointer (some ⟨rb, o, none⟩), .int .i64 lo, .int .i64 hi, fv F] : Array Value)[q]?) ∧ z.cell? ⟨rb, o, none⟩ = some u ∧ z.frozen? ⟨rb, o, none⟩ = false ∧ Off (fun q => q = fb) w z) := fun z hz => by
    have o2 : Off (fun q => q = fb) w z := (Off.of_below bv).join hz fun _ _ g => g
    exact ⟨(bx.off hz (by omega)).cell, (o2.cell (p := ⟨rb, o, none⟩) hul hrf).trans hu1, (o2.frozen (p := ⟨rb, o, none⟩) hul hrf).trans hu2, o2⟩
  have HV : Hid (w.heap.size ≤ (w.alloc (.cells #[.pointer (some ⟨rb, o, none⟩), .int .i64 lo, .int .i64 hi, fv F] 139)).heap.size) := bv.size
  have HHI : Hid (hi ≤ 1000000 ∧ 0 ≤ lo) := ⟨hhi2, hlo⟩
  clear bv bx h hu1 hu2 hul hfb hlo hhi hlo2 hhi2
  go_enter Tryz.func132, Tryz.ntmps132
  go_wp2_with fail
  generalize (w.alloc (.cells #[.pointer (some ⟨rb, o, none⟩), .int .i64 lo, .int .i64 hi, fv F] 139)) = V at ht cx HX HV ⊢
  refine ht.mono ?_
  intro r w1 hq
  clear ht
  rcases hq with ⟨e, he, rfl, H1⟩ | ⟨v, hv, rfl, H1⟩
  · exact ⟨rfl, Or.inl ⟨e, by unfold rStr rTxt; rw [he], rfl, (HX.out _ H1.out).2.2.2⟩⟩
  have hbd := rNum_bd hv
  obtain ⟨m, rfl⟩ : ∃ m : Nat, v = m := ⟨v.toNat, by have := HHI.out; omega⟩
  have HRV : Hid (rNum bs p 4 lo hi = .ok (m : Int) ∧ m ≤ 1000000) := ⟨hv, by have := HHI.out; omega⟩
  have cx1 := (HX.out _ H1.out.2).1
  have hbx := H1.out.1.box.cell
  have htk := take_any H1.out.1 m
  clear hv hbd cx
  obtain ⟨xb, hxb⟩ : ∃ xb, w.heap.size = xb := ⟨_, rfl⟩
  have HXB : Hid (w.heap.size = xb) := hxb
  rw [hxb] at cx1 ⊢
  clear hxb
  go_wp2_with fail
  refine htk.mono ?_
  intro r w2 hq
  clear htk cx1 hbx
  rcases hq with ⟨hlt, rfl, H2⟩ | ⟨hle, a2, k2, rfl, H2, _⟩
  · refine ⟨rfl, Or.inl ⟨bs.length, ?_, rfl, (HX.out _ (H1.out.2.trans H2.out)).2.2.2⟩⟩
    unfold rStr rTxt
    rw [HRV.out.1]
    simp only [Int.toNat_natCast]
    rw [if_neg (by omega)]
  have HLE : Hid (p + 4 + m ≤ bs.length) := hle
  have hfr := fresh_any (c := k2) w2 H2.out.1 HRV.out.2
  clear hle
  go_wp2_with fail
  refine hfr.mono ?_
  rintro _ w3 ⟨a3, k3, rfl, hrow, hb3⟩
  clear hfr
  have H12 : Hid (Off (fun q => q = fb) V w2) := H1.out.2.trans H2.out.2.2
  have o3 : Off (fun q => q = fb) V w3 := H12.out.join (Off.of_below hb3) fun _ _ g => g
  obtain ⟨c3, c4, c5, o4⟩ := HX.out _ o3
  have c3' : ∀ q, w3.cell? ⟨xb, q, none⟩ = (#[.pointer (some ⟨rb, o, none⟩), .int .i64 lo, .int .i64 hi, fv F] : Array Value)[q]? := by rw [← HXB.out]; exact c3
  have hcv := run_conv_bytes hrow.byts k3
  have HT : Hid (rTxt bs p lo hi = .ok (piece bs (p + 4) m)) := by
    unfold Hid rTxt
    rw [HRV.out.1]
    simp only [Int.toNat_natCast]
    rw [if_pos HLE.out]
  have HL : Hid ((piece bs (p + 4) m).length = m) := piece_len HLE.out
  have HE : Hid (Rdr w3 fb po c bs (p + 4 + m) ∧ Off (fun q => q = fb) w w3 ∧ Off (fun q => q = fb) V w3) := ⟨H2.out.2.1.below hb3, o4, o3⟩
  obtain ⟨s, hs⟩ : ∃ s, strOf (piece bs (p + 4) m) = s := ⟨_, rfl⟩
  rw [hs] at hcv
  have HSS : Hid (strOf (piece bs (p + 4) m) = s) := hs
  have hia := hK s w3
  clear hrow hb3 o3 c3 o4 hs
  cases hq : K s with
  | true =>
    rw [hq] at hia
    have HQ : Hid (K s = true) := hq
    clear hq
    go_wp2_with fail
    refine hia.mono ?_
    rintro _ w9 ⟨rfl, h9⟩
    have o9 : Off (fun q => q = fb) V w9 := HE.out.2.2.join (Off.of_below h9) fun _ _ g => g
    obtain ⟨d3, d4, d5, o5⟩ := HX.out _ o9
    have d3' : ∀ q, w9.cell? ⟨xb, q, none⟩ = (#[.pointer (some ⟨rb, o, none⟩), .int .i64 lo, .int .i64 hi, fv F] : Array Value)[q]? := by rw [← HXB.out]; exact d3
    have HE9 : Hid (Rdr w9 fb po c bs (p + 4 + m) ∧ Off (fun q => q = fb) w w9) := ⟨HE.out.1.below h9, o5⟩
    clear hia h9 o9 o5 d3 c3' c4 c5
    go_wp2_with fail
    go_end0
    refine Or.inr ⟨s, m, w9, ?_, ?_, rfl, HE9.out.1, HE9.out.2, rfl⟩
    · unfold rStr; rw [HT.out]; simp only; rw [HSS.out, if_pos HQ.out]
    · rw [← HSS.out, strOf_size, HL.out]
  | false =>
    rw [hq] at hia
    have HQ : Hid (K s = false) := hq
    clear hq
    go_wp2_with fail
    refine hia.mono ?_
    rintro _ w9 ⟨rfl, h9⟩
    have HE9 : Hid (Off (fun q => q = fb) w w9) := HE.out.2.1.join (Off.of_below h9) fun _ _ g => g
    clear hia h9 c3' c4 c5
    go_wp2_with fail
    refine (giveUp_any _ _).mono ?_
    rintro _ w8 ⟨rfl, h8⟩
    subst w8
    refine ⟨rfl, Or.inl ⟨p + 4, ?_, ?_, HE9.out⟩⟩
    · unfold rStr; rw [HT.out]; simp only; rw [HSS.out, if_neg (by rw [HQ.out]; decide)]
    · rfl
theorem str_read (k : Nat) {w : World} {fb rb o : Nat} {po : Option Addr} {c : Nat} {bs : List Int} {p : Nat} (h : Rdr w fb po c bs p) (lo hi : Int) (hlo : 0 ≤ lo) (hhi : 0 ≤ hi) (hlo2 : lo ≤ 1000000) (hhi2 : hi ≤ 1000000) (hu : Cel1 w rb o) (hrf : rb ≠ fb) :
    Calls Tryz.prog 132 #[.agg #[.pointer (some ⟨rb, o, none⟩), .int .i64 lo, .int .i64 hi, fv (isF k)], .pointer (some ⟨fb, 0, none⟩)] w (StrRQ (isS k) w fb rb o po c bs p lo hi) := by
  refine str_read_f (isF k) (isS k) ?_ (fun s w => isF_any k s w) h lo hi hlo hhi hlo2 hhi2 hu hrf
  intro args x
  match k with
  | 0 => exact (enters_of Tryz.func73 (by kernel_rfl) rfl) args x
  | 1 => exact (enters_of Tryz.func67 (by kernel_rfl) rfl) args x
  | 2 => exact (enters_of Tryz.func68 (by kernel_rfl) rfl) args x
  | _ + 3 => exact (enters_of Tryz.func69 (by kernel_rfl) rfl) args x
end Go.Proofs.YtdjjologpodnkaaGreatDoor
