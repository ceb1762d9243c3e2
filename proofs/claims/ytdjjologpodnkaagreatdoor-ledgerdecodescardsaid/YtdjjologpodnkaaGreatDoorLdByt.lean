/-
  Texts read into their places.
-/
import Derived.Test.YtdjjologpodnkaaGreatDoorLdRdOk
import Derived.Test.YtdjjologpodnkaaGreatDoorLdRdNo
namespace Go.Proofs.YtdjjologpodnkaaGreatDoor
open Go.RowKit

def rTxt (bs : List Int) (p : Nat) (lo hi : Int) : Except Nat (List Int) :=
  match rNum bs p 4 lo hi with
  | .error e => .error e
  | .ok m => if p + 4 + m.toNat ≤ bs.length then .ok (piece bs (p + 4) m.toNat) else .error bs.length
theorem rNum_bd {bs : List Int} {p sz : Nat} {lo hi v : Int} (h : rNum bs p sz lo hi = .ok v) : p + sz ≤ bs.length ∧ lo ≤ v ∧ v ≤ hi := by
  unfold rNum at h
  split at h
  · split at h
    · rename_i h1 h2; cases h; exact ⟨h1, h2⟩
    · cases h
  · cases h
set_option maxRecDepth 100000 in
set_option maxHeartbeats 1000000 in
theorem fresh_any {po : Option Addr} {m c : Nat} {bs : List Int} (w : World) (hb : Byts w po m bs) (hm : m ≤ 1000000) :
    Calls Tryz.prog 133 #[.slice po m c] w fun e w' => ∃ a k, e = .returned (.slice a m k) ∧ BRow w' w.heap.size (.slice a m k) bs ∧ Below w.heap.size w w' := by
  obtain ⟨a', c', w', hr, r1, o1⟩ := run_bapp (v := .slice none 0 0) (c := c) (B := w.heap.size) (ERow.nil _ _ _ _ _) hb (by omega) (Nat.le_refl _)
  have HE : Hid (BRow w' w.heap.size (.slice a' m c') bs ∧ Below w.heap.size w w') := ⟨r1, o1.below (Nat.le_refl _) (fun k e => by simp [Value.ownBlock] at e)⟩
  clear hb r1 o1
  go_enter Tryz.func133, Tryz.ntmps133
  go_wp2_with (at_builtin; refine wpList_append_run rfl (.const (.slice none 0 0)) (.tmp 3) 22 _ rfl hr ?_)
  go_ret
  exact ⟨a', c', rfl, HE.out.1, HE.out.2⟩
/-- What taking a piece comes to. -/
def PcQ (w : World) (fb : Nat) (po : Option Addr) (c : Nat) (bs : List Int) (p m : Nat) (r : Ending) (w' : World) : Prop :=
  (bs.length < p + m ∧ r = gaveUp bs.length ∧ Hid (Off (fun q => q = fb) w w')) ∨ (p + m ≤ bs.length ∧ ∃ a k, r = .returned (.slice a m k) ∧ Hid (Byts w' a m (piece bs p m) ∧ Rdr w' fb po c bs (p + m) ∧ Off (fun q => q = fb) w w') ∧ Hid (∀ g, (∀ x, po = some x → x.block ≠ g) → ∀ x, a = some x → x.block ≠ g))
theorem take_any {w : World} {fb : Nat} {po : Option Addr} {c : Nat} {bs : List Int} {p : Nat} (h : Rdr w fb po c bs p) (m : Nat) : Calls Tryz.prog 118 #[.pointer (some ⟨fb, 0, none⟩), .int .i64 m] w (PcQ w fb po c bs p m) := by
  by_cases hm : p + m ≤ bs.length
  · refine (take_ok h.box hm h.nc h.nil h.hn).mono fun r w' ⟨hr, hw⟩ => ?_
    obtain ⟨h1, h2⟩ := h.put hm hw
    exact Or.inr ⟨hm, _, _, hr, ⟨rdW_byts (win_byts h.byts hm h.nc) (winA_block h.ne c p) hw, h1, h2⟩, fun g hg => winA_block hg c p⟩
  · refine (take_no h.box (by omega) h.hp h.hn).mono fun r w' ⟨hq, k, hw⟩ => ?_
    exact Or.inl ⟨by omega, hq, by rw [hw]; exact (Off.refl _ _).drewN k⟩
def BytRQ (w : World) (fb rb o : Nat) (po : Option Addr) (c : Nat) (bs : List Int) (p : Nat) (lo hi : Int) (r : Ending) (w' : World) : Prop :=
  (∃ e, rTxt bs p lo hi = .error e ∧ r = gaveUp e ∧ Off (fun q => q = fb) w w') ∨
  (∃ l a k W1, rTxt bs p lo hi = .ok l ∧ r = .returned (.tuple #[]) ∧ Rdr W1 fb po c bs (p + 4 + l.length) ∧ BRow W1 w.heap.size (.slice a l.length k) l ∧ Off (fun q => q = fb) w W1 ∧ w' = W1.setCell ⟨rb, o, none⟩ (.slice a l.length k))
set_option maxRecDepth 100000 in
set_option maxHeartbeats 2000000 in
theorem byt_read {w : World} {fb rb o : Nat} {po : Option Addr} {c : Nat} {bs : List Int} {p : Nat} (h : Rdr w fb po c bs p) (lo hi : Int) (hlo : 0 ≤ lo) (hhi : 0 ≤ hi) (hlo2 : lo ≤ 1000000) (hhi2 : hi ≤ 1000000) (hu : Cel1 w rb o) (hrf : rb ≠ fb) :
    Calls Tryz.prog 136 #[.agg #[.pointer (some ⟨rb, o, none⟩), .int .i64 lo, .int .i64 hi, fv 74], .pointer (some ⟨fb, 0, none⟩)] w (BytRQ w fb rb o po c bs p lo hi) := by
  have bv := (Below.refl w.heap.size w).alloc (Nat.le_refl _) (.cells #[.pointer (some ⟨rb, o, none⟩), .int .i64 lo, .int .i64 hi, fv 74] 146)
  have bx := Box.new w #[.pointer (some ⟨rb, o, none⟩), .int .i64 lo, .int .i64 hi, fv 74] 146
  obtain ⟨⟨u, hu1⟩, hu2⟩ := hu
  have hul : rb < w.heap.size := cell_lt hu1
  have hfb : fb < w.heap.size := h.box.lt
  have ht := takeNumber_any (h.below bv) 4 (by omega) lo hi hlo hhi (by omega) (by omega)
  have cx := bx.cell
  have HX : Hid (∀ z, Off (fun q => q = fb) (w.alloc (.cells #[.pointer (some ⟨rb, o, none⟩), .int .i64 lo, .int .i64 hi, fv 74] 146)) z → (∀ q, z.cell? ⟨w.heap.size, q, none⟩ = (#[.pointer (some ⟨rb, o, none⟩), .int .i64 lo, .int .i64 hi, fv 74] : Array Value)[q]?) ∧ z.cell? ⟨rb, o, none⟩ = some u ∧ z.frozen? ⟨rb, o, none⟩ = false ∧ Off (fun q => q = fb) w z) := fun z hz => by
    have o2 : Off (fun q => q = fb) w z := (Off.of_below bv).join hz fun _ _ g => g
    exact ⟨(bx.off hz (by omega)).cell, (o2.cell (p := ⟨rb, o, none⟩) hul hrf).trans hu1, (o2.frozen (p := ⟨rb, o, none⟩) hul hrf).trans hu2, o2⟩
  have HV : Hid (w.heap.size ≤ (w.alloc (.cells #[.pointer (some ⟨rb, o, none⟩), .int .i64 lo, .int .i64 hi, fv 74] 146)).heap.size) := bv.size
  have HHI : Hid (hi ≤ 1000000 ∧ 0 ≤ lo) := ⟨hhi2, hlo⟩
  clear bv bx h hu1 hu2 hul hfb hlo hhi hlo2 hhi2
  go_enter Tryz.func136, Tryz.ntmps136
  go_wp2_with fail
  generalize (w.alloc (.cells #[.pointer (some ⟨rb, o, none⟩), .int .i64 lo, .int .i64 hi, fv 74] 146)) = V at ht cx HX HV ⊢
  refine ht.mono ?_
  intro r w1 hq
  clear ht
  rcases hq with ⟨e, he, rfl, H1⟩ | ⟨v, hv, rfl, H1⟩
  · exact ⟨rfl, Or.inl ⟨e, by unfold rTxt; rw [he], rfl, (HX.out _ H1.out).2.2.2⟩⟩
  have hbd := rNum_bd hv
  obtain ⟨m, rfl⟩ : ∃ m : Nat, v = m := ⟨v.toNat, by have := HHI.out; omega⟩
  have HRV : Hid (rNum bs p 4 lo hi = .ok (m : Int) ∧ m ≤ 1000000) := ⟨hv, by have := HHI.out; omega⟩
  have cx1 := (HX.out _ H1.out.2).1
  have hbx := H1.out.1.box.cell
  have htk := take_any H1.out.1 m
  clear hv hbd cx
  obtain ⟨xb, hxb⟩ : ∃ xb, w.heap.size = xb := ⟨_, rfl⟩
  have HXB : Hid (w.heap.size = xb) := hxb
  rw [hxb] at cx1 ⊢
  clear hxb
  go_wp2_with fail
  refine htk.mono ?_
  intro r w2 hq
  clear htk cx1 hbx
  rcases hq with ⟨hlt, rfl, H2⟩ | ⟨hle, a2, k2, rfl, H2, _⟩
  · refine ⟨rfl, Or.inl ⟨bs.length, ?_, rfl, (HX.out _ (H1.out.2.trans H2.out)).2.2.2⟩⟩
    unfold rTxt
    rw [HRV.out.1]
    simp only [Int.toNat_natCast]
    rw [if_neg (by omega)]
  have HLE : Hid (p + 4 + m ≤ bs.length) := hle
  have hfr := fresh_any (c := k2) w2 H2.out.1 HRV.out.2
  clear hle
  go_wp2_with fail
  refine hfr.mono ?_
  rintro _ w3 ⟨a3, k3, rfl, hrow, hb3⟩
  clear hfr
  have H12 : Hid (Off (fun q => q = fb) V w2) := H1.out.2.trans H2.out.2.2
  have o3 : Off (fun q => q = fb) V w3 := H12.out.join (Off.of_below hb3) fun _ _ g => g
  obtain ⟨c3, c4, c5, o4⟩ := HX.out _ o3
  have c3' : ∀ q, w3.cell? ⟨xb, q, none⟩ = (#[.pointer (some ⟨rb, o, none⟩), .int .i64 lo, .int .i64 hi, fv 74] : Array Value)[q]? := by rw [← HXB.out]; exact c3
  have HE : Hid (Rdr w3 fb po c bs (p + 4 + m) ∧ BRow w3 w.heap.size (.slice a3 m k3) (piece bs (p + 4) m) ∧ Off (fun q => q = fb) w w3) := ⟨H2.out.2.1.below hb3, ERow.base hrow (Nat.le_trans HV.out H12.out.size), o4⟩
  have hia := isAny_any (.slice a3 m k3) w3
  clear hrow hb3 o3 c3 o4
  go_wp2_with fail
  refine hia.mono ?_
  rintro _ w9 ⟨rfl, h9⟩
  subst w9
  clear hia
  go_wp2_with fail
  go_end0
  refine Or.inr ⟨piece bs (p + 4) m, a3, k3, w3, ?_, rfl, ?_, ?_, HE.out.2.2, ?_⟩
  · unfold rTxt
    rw [HRV.out.1]
    simp only [Int.toNat_natCast]
    rw [if_pos HLE.out]
  · rw [piece_len HLE.out]; exact HE.out.1
  · rw [piece_len HLE.out]; exact HE.out.2.1
  · rw [piece_len HLE.out]
end Go.Proofs.YtdjjologpodnkaaGreatDoor
