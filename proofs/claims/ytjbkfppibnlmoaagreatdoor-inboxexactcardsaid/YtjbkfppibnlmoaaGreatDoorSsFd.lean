import Derived.Test.YtjbkfppibnlmoaaGreatDoorSsAx
/-
  The law's decides, by the strong pair.
-/
namespace Go.Proofs.YtjbkfppibnlmoaaGreatDoor
open Go.RowKit

section
variable {W w w' : World} {X K n mm : Nat} {bv mk ke rm L : Value} {o : Option (Int × Int)} {A A' : List Ent} {τ : Nat → Nat}
set_option maxRecDepth 100000 in
set_option maxHeartbeats 8000000 in
theorem decides_s (h : SS W X K bv mk ke rm L o A A τ n mm w) (hmm : mm + 1 ≤ 80) (hE : ErrType W) {s cd : ByteArray} {po : Option Addr} {m co : Nat} {bs : List Int} (hk : KeyS s) (hb : Byts W po m bs) (hm : m + 90 ≤ 140737488355328) :
    Calls Tryz.prog 23 #[.pointer (some ⟨X, 0, none⟩), .string s, .string cd, .slice po m co] w fun r w' => r = .returned (.bool true) ∧ Hid (∃ L' τ', SS W X K bv mk ke rm L' o (dcSo o A s cd m bs) (dcSo o A s cd m bs) τ' n (mm + 1) w' ∧ XF τ τ' w w') := by
  have hpB : ∀ b of_, po = some ⟨b, of_, none⟩ → 0 < m → b < W.heap.size := fun b of_ e h0 => by
    obtain ⟨b', o', e', hl, _⟩ := hb.cell 0 h0
    rw [e] at e'
    simp only [Option.some.injEq, Addr.mk.injEq] at e'
    omega
  have hd := hand_full (c := co) w (hb.below h.bel) hm
  have HI : Hid (ErrType W ∧ Byts W po m bs ∧ KeyS s ∧ m + 90 ≤ 140737488355328 ∧ SS W X K bv mk ke rm L o A A τ n mm w ∧ ∀ b of_, po = some ⟨b, of_, none⟩ → 0 < m → b < W.heap.size) := ⟨hE, hb, hk, hm, h, hpB⟩
  clear h hE hb hk hm hpB
  go_enter Tryz.func23, Tryz.ntmps23
  go_wp2_with fail
  refine hd.mono ?_
  rintro _ w1 ⟨g, rfl, hh1, b1⟩
  clear hd
  have hls := HI.out.2.2.2.2.1.below b1
  have hud := u_dec_s (cd := cd) hls HI.out.2.2.1 (hh1.byts) (co := m + 90) (by have := HI.out.2.2.2.1; omega)
  have x0 := hls.cells.1
  have H1 : Hid (Mkd w1 w.heap.size g m bs ∧ Below w.heap.size w w1 ∧ g < w1.heap.size ∧ w.heap.size ≤ g ∧ ∀ q, w.heap.size ≤ q → τ q = 0) := ⟨hh1, b1, hh1.lt.2, hh1.lt.1, HI.out.2.2.2.2.1.new⟩
  clear hh1 b1 hls
  go_wp2_with fail
  refine hud.mono ?_
  rintro _ w2 ⟨a, q, k, ev, rfl, H2⟩
  obtain ⟨τ1, q1, q2, q3, q4, q5⟩ := H2.out
  have H2b : Hid (SS W X K bv mk ke rm L o (dcSo o A s cd m bs) A τ1 n mm w2 ∧ XF τ τ1 w1 w2 ∧ EvK τ1 w2 w1.heap.size ev (decCo o A s cd m) ∧ TRow w2 w1.heap.size (.slice a q k) (gnSo o A s cd m bs) ∧ ∀ b, (Value.slice a q k).ownBlock = some b → τ1 b = 0) := ⟨q1, q2, q3, q4, q5⟩
  have hrd := r_dec_s (cd := cd) (s := s) (co := co) q1 (HI.out.2.1.below q1.bel) HI.out.2.2.2.2.2
  clear hud x0 q1 q2 q3 q4 q5 H2
  go_wp2_with fail
  refine hrd.mono ?_
  rintro _ w3 ⟨a', q', k', rfl, H3⟩
  clear hrd
  obtain ⟨L', τ2, p1, p2, p3⟩ := H3.out
  obtain ⟨q1, q2, q3, q4, q5⟩ := H2b.out
  have hsz : ∀ l : List ByteArray, ∀ u u' : Option Addr, ∀ i j i' j' : Nat, ∀ z z' : World, ∀ B B' : Nat, TRow z B (.slice u i j) l → TRow z' B' (.slice u' i' j') l → i = i' := fun l u u' i j i' j' z z' B B' h1 h2 => by rw [ERow.len h1, ERow.len h2]
  obtain rfl : q = q' := hsz _ _ _ _ _ _ _ _ _ _ _ q4 p2
  have ht3 : TRow w3 w1.heap.size (.slice a q k) (gnSo o A s cd m bs) := ERow.off q4 p3.off fun b hb => by rw [q5 b hb]; decide
  have z1 : τ1 g = 0 := q2.zero H1.out.2.2.1 (H1.out.2.2.2.2 g H1.out.2.2.2.1)
  have z2 : τ2 g = 0 := p3.zero (Nat.lt_of_lt_of_le H1.out.2.2.1 q2.off.size) z1
  have hqb : q ≤ 1000 := by
    rw [ERow.len q4]
    have : (gnSo o A s cd m bs).length ≤ 1 := by
      unfold gnSo gnS goneS
      rcases o with _ | ⟨K0, R⟩
      · simp
      · simp only
        split
        · cases fi s A with
          | none => simp
          | some i =>
            simp only
            split
            · split <;> simp
            · simp
        · simp
    omega
  have HP : Hid (SS W X K bv mk ke rm L' o (dcSo o A s cd m bs) (dcSo o A s cd m bs) τ2 n mm w3 ∧ OEv w3 w1.heap.size ev 0 (decCo o A s cd m) ∧ TRow w3 w1.heap.size (.slice a q k) (gnSo o A s cd m bs) ∧ TRow w3 w2.heap.size (.slice a' q k') (gnSo o A s cd m bs) ∧ Mkd w3 w.heap.size g m bs ∧ XF τ τ2 w w3 ∧ τ2 g = 0 ∧ (∀ b, (Value.slice a q k).ownBlock = some b → τ2 b = 0)) := ⟨p1, q3.at_ p3.off, ht3, p2, (H1.out.1.off q2.off (by rw [H1.out.2.2.2.2 g H1.out.2.2.2.1]; decide)).off p3.off (by rw [z1]; decide), (XF.from H1.out.2.1 q2).trans p3, z2, fun b hb => p3.zero (ERow.lt q4 hb).2 (q5 b hb)⟩
  clear H2b H3 p1 p2 p3 q1 q2 q3 q4 q5 ht3 hsz z1 z2
  obtain ⟨cc, hcc⟩ : ∃ c, decCo o A s cd m = c := ⟨_, rfl⟩
  have hcd := code_any HP.out.2.1 (errType_below HI.out.1 HP.out.1.bel)
  rw [hcc] at hcd ⊢
  clear hcc
  go_wp2_with fail
  refine hcd.mono ?_
  rintro _ w5 ⟨rfl, b5⟩
  clear hcd
  go_wp2_with fail
  refine (num_any _ _).mono ?_
  rintro _ w9 ⟨rfl, h9⟩
  subst w9
  have hst := sameTexts_true (ERow.below HP.out.2.2.1 b5) (ERow.below HP.out.2.2.2.1 b5)
  have HP5 : Hid (SS W X K bv mk ke rm L' o (dcSo o A s cd m bs) (dcSo o A s cd m bs) τ2 n mm w5 ∧ TRow w5 w1.heap.size (.slice a q k) (gnSo o A s cd m bs) ∧ Mkd w5 w.heap.size g m bs ∧ XF τ τ2 w w5) := ⟨HP.out.1.below b5, ERow.below HP.out.2.2.1 b5, HP.out.2.2.2.2.1.below b5, HP.out.2.2.2.2.2.1.below b5⟩
  have HG : Hid (τ2 g = 0 ∧ ∀ b, (Value.slice a q k).ownBlock = some b → τ2 b = 0) := HP.out.2.2.2.2.2.2
  clear b5 HP
  go_wp2_with fail
  refine hst.mono ?_
  rintro _ w6 ⟨rfl, m6, rfl⟩
  have b6 := below_drewN (Below.refl w5.heap.size w5) m6
  have hkp := Kept_true (c := co) (w5.drewN m6) (HP5.out.2.2.1.below b6) (HI.out.2.1.below (HP5.out.1.below b6).bel) HI.out.2.2.2.1
  clear hst b6
  go_wp2_with fail
  refine hkp.mono ?_
  rintro _ w7 ⟨rfl, m7, rfl⟩
  rw [World.drewN_drewN]
  have b7 := below_drewN (Below.refl w5.heap.size w5) (m6 + m7)
  have x5 := (HP5.out.1.below b7).cells.2.2.2.1
  have htx := (HP5.out.1.below b7).texts hmm (ERow.base (ERow.below HP5.out.2.1 b7) (Nat.le_trans HI.out.2.2.2.2.1.bel.size H1.out.2.1.size)) hqb HG.out.2
  have HM7 : Hid (Mkd (w5.drewN (m6 + m7)) w.heap.size g m bs ∧ XF τ τ2 w (w5.drewN (m6 + m7))) := ⟨HP5.out.2.2.1.below b7, HP5.out.2.2.2.below b7⟩
  have HTB : Hid (∀ b, (Value.slice a q k).ownBlock = some b → w.heap.size ≤ b) := fun b e => Nat.le_trans H1.out.2.1.size (ERow.lt HP5.out.2.1 e).1
  have HNG : Hid ((Value.slice a q k).ownBlock ≠ some g) := fun e => by
    have := (ERow.lt HP5.out.2.1 e).1
    have := H1.out.2.2.1
    omega
  clear hkp b7 HP5
  go_wp2_with fail
  refine htx.mono ?_
  rintro _ w8 ⟨rfl, H8⟩
  obtain ⟨τ3, r1, r2⟩ := H8.out
  have hm8 : Mkd w8 w.heap.size g m bs := HM7.out.1.off r2.off (by rw [HG.out.1]; decide)
  have HM8 : Hid (Mkd w8 w.heap.size g m bs) := hm8
  have htu := turn_any (BRow.prefix (m := m) hm8.1 (by omega))
  have HX8 : Hid (SS W X K bv mk ke rm L' o (dcSo o A s cd m bs) (dcSo o A s cd m bs) τ3 n (mm + 1) w8 ∧ XF τ τ3 w w8 ∧ τ3 g = 0) := by
    have hz : τ3 g = 0 := by rw [r2.keep g HM7.out.1.lt.2 HNG.out]; exact HG.out.1
    refine ⟨r1, ⟨HM7.out.2.off.join (r2.off) fun b hb e => ?_, fun b hb => ?_⟩, hz⟩
    · rcases HM7.out.2.keep b hb with z | z <;> omega
    · have hlt := Nat.lt_of_lt_of_le hb HM7.out.2.off.size
      rw [r2.keep b hlt fun e => ?_]
      · exact HM7.out.2.keep b hb
      · have := HTB.out b e
        omega
  clear htx x5 hm8 HM7 r1 r2 H8
  go_wp2_with fail
  refine htu.mono ?_
  rintro _ w9 ⟨rfl, O9⟩
  have HZ : Hid (∃ L' τ', SS W X K bv mk ke rm L' o (dcSo o A s cd m bs) (dcSo o A s cd m bs) τ' n (mm + 1) w9 ∧ XF τ τ' w w9) := ⟨L', τ3, HX8.out.1.off O9.out (fun q _ e => by rw [e]; exact HX8.out.2.2) (fun q e => by rw [e]; exact Nat.le_trans HI.out.2.2.2.2.1.bel.size H1.out.2.2.2.1), HX8.out.2.1.fresh O9.out fun q e => by rw [e]; exact H1.out.2.2.2.1⟩
  clear htu
  go_wp2_with fail
  go_ret
  exact ⟨rfl, HZ⟩
end
end Go.Proofs.YtjbkfppibnlmoaaGreatDoor

/-
  The law's finds, by the strong pair.
-/
namespace Go.Proofs.YtjbkfppibnlmoaaGreatDoor
open Go.RowKit

section
variable {w w' : World} {B b sb M : Nat} {v : Value} {K R : Int} {es : List Ent}
set_option maxRecDepth 100000 in
set_option maxHeartbeats 2000000 in
theorem find_no_s (h : Bx w B b sb M v K R es) {s : ByteArray} (hk : KeyS s) (hf : fi s es = none) : Calls Tryz.prog 58 #[.pointer (some ⟨b, 0, none⟩), .string s] w (EnS w zE false) := by
  have bv : Below w.heap.size w (w.alloc (.cells #[.string ⟨#[]⟩, .slice none 0 0, .int .i64 0, .int .i64 0, .slice none 0 0, .string ⟨#[]⟩, .slice none 0 0] 30)) := (Below.refl _ _).alloc (Nat.le_refl _) _
  have bx := Box.new w #[.string ⟨#[]⟩, .slice none 0 0, .int .i64 0, .int .i64 0, .slice none 0 0, .string ⟨#[]⟩, .slice none 0 0] 30
  obtain ⟨V, hV⟩ : ∃ V, w.alloc (.cells #[.string ⟨#[]⟩, .slice none 0 0, .int .i64 0, .int .i64 0, .slice none 0 0, .string ⟨#[]⟩, .slice none 0 0] 30) = V := ⟨_, rfl⟩
  rw [hV] at bv bx
  have h1 := h.below bv
  have hmk := made_yes h1
  have c0 := hcell h1.blk 0
  have k3 := h1.sh.cells.2.2.2.1
  have hlk := h1.sh.map.look_no hk hf
  have cx := bx.cell
  have fx := bx.free
  have HB : Hid (Below w.heap.size w V) := bv
  clear bv h h1 hf hk bx
  go_enter Tryz.func58, Tryz.ntmps58
  go_wp2_with (go_at_call 60; refine hmk.mono ?_; rintro _ w9 ⟨rfl, h9⟩; subst w9)
  clear hV
  refine bodyPost_ret ?_ rfl ⟨none, 0, none, 0, none, 0, rfl, zE_own _ _, ?_, zE_sep⟩
  · simp [results, Tryz.results58, go_sem, cx, zE]
  · repeat' (first | (with_reducible exact HB.out) | (with_reducible refine Below.setCell ?_ (by exact Nat.le_refl _) _) | (with_reducible refine Below.alloc ?_ (by simp; omega) _))
set_option maxRecDepth 100000 in
set_option maxHeartbeats 2000000 in
theorem find_yes_s (h : Bx w B b sb M v K R es) {s : ByteArray} {i : Nat} {m : Ent} (hk : KeyS s) (hf : fi s es = some i) (hm : es[i]? = some m) : Calls Tryz.prog 58 #[.pointer (some ⟨b, 0, none⟩), .string s] w (EnS w m true) := by
  have bv : Below w.heap.size w (w.alloc (.cells #[.string ⟨#[]⟩, .slice none 0 0, .int .i64 0, .int .i64 0, .slice none 0 0, .string ⟨#[]⟩, .slice none 0 0] 30)) := (Below.refl _ _).alloc (Nat.le_refl _) _
  have bx := Box.new w #[.string ⟨#[]⟩, .slice none 0 0, .int .i64 0, .int .i64 0, .slice none 0 0, .string ⟨#[]⟩, .slice none 0 0] 30
  obtain ⟨V, hV⟩ : ∃ V, w.alloc (.cells #[.string ⟨#[]⟩, .slice none 0 0, .int .i64 0, .int .i64 0, .slice none 0 0, .string ⟨#[]⟩, .slice none 0 0] 30) = V := ⟨_, rfl⟩
  rw [hV] at bv bx
  have h1 := h.below bv
  have hmk := made_yes h1
  have c0 := hcell h1.blk 0
  have k3 := h1.sh.cells.2.2.2.1
  have k2 := h1.sh.cells.2.2.1
  have hlk := h1.sh.map.look_yes hk hf
  obtain ⟨a, c, hv, _⟩ := h1.sh.row.isSlice
  have hil := (List.getElem?_eq_some_iff.1 hm).1
  obtain ⟨n, hn⟩ : ∃ n, es.length = n := ⟨_, rfl⟩
  have hrow := h1.sh.row
  rw [hv, hn] at hrow k2
  rw [hn] at hil
  obtain ⟨g, rfl, hg, hc⟩ := nrow_cells hrow hm
  obtain ⟨d0, d1, d2, d3, d4, d5, d6⟩ := hc
  have hl := h1.lie m (List.mem_of_getElem? hm)
  have hcp := copied_sep m V hl.1 hl.2.1 hl.2.2.1 hl.2.2.2
  have q1 : (i : Int) < n := by omega
  have cx := bx.cell
  have fx := bx.free
  have lx := bx.lt
  have HX : Hid (Box V w.heap.size #[.string ⟨#[]⟩, .slice none 0 0, .int .i64 0, .int .i64 0, .slice none 0 0, .string ⟨#[]⟩, .slice none 0 0]) := bx
  have HB : Hid (Below w.heap.size w V) := bv
  clear bv h h1 hf hk bx hv hrow hn hm hl
  go_enter Tryz.func58, Tryz.ntmps58
  go_wp2_with (go_at_call 60; refine hmk.mono ?_; rintro _ w9 ⟨rfl, h9⟩; subst w9)
  clear hV
  refine hcp.mono ?_
  rintro _ w1 ⟨a1, c1, a2, c2, a3, c3, rfl, ho, hb, hsp⟩
  have hx1 := HX.out.below hb
  have cx1 := hx1.cell
  have fx1 := hx1.free
  have HE : Hid (∀ W', Off (fun q => q = w.heap.size) w1 W' → Own W' w.heap.size (m.wi a1 c1 a2 c2 a3 c3) ∧ Below w.heap.size w W' ∧ Sep (m.wi a1 c1 a2 c2 a3 c3)) := fun W' ho' => by
    refine ⟨(ho.off ho' fun q hq e => by omega).base HB.out.size, (below_then HB.out hb).trans (ho'.below (Nat.le_trans HB.out.size hb.size) fun k hk => by omega), hsp⟩
  clear hcp ho hb hsp hx1 cx fx d0 d1 d2 d3 d4 d5 d6 c0 k2 k3 hlk hmk
  go_wp2_with fail
  refine bodyPost_ret ?_ rfl ⟨a1, c1, a2, c2, a3, c3, rfl, HE.out _ ?_⟩
  · simp [results, Tryz.results58, go_sem, cx1]
  · iterate 7 (refine Off.setCell ?_ (by exact rfl) _)
    exact Off.refl _ _
end
section
variable {w : World} {x : Value}
set_option maxRecDepth 100000 in
set_option maxHeartbeats 2000000 in
theorem find_un_s (h : Un w x) (s : ByteArray) : Calls Tryz.prog 58 #[x, .string s] w (EnS w zE false) := by
  have bv : Below w.heap.size w (w.alloc (.cells #[.string ⟨#[]⟩, .slice none 0 0, .int .i64 0, .int .i64 0, .slice none 0 0, .string ⟨#[]⟩, .slice none 0 0] 30)) := (Below.refl _ _).alloc (Nat.le_refl _) _
  have bx := Box.new w #[.string ⟨#[]⟩, .slice none 0 0, .int .i64 0, .int .i64 0, .slice none 0 0, .string ⟨#[]⟩, .slice none 0 0] 30
  obtain ⟨V, hV⟩ : ∃ V, w.alloc (.cells #[.string ⟨#[]⟩, .slice none 0 0, .int .i64 0, .int .i64 0, .slice none 0 0, .string ⟨#[]⟩, .slice none 0 0] 30) = V := ⟨_, rfl⟩
  rw [hV] at bv bx
  have hmk := made_no (h.below bv)
  have cx := bx.cell
  have fx := bx.free
  have HB : Hid (Below w.heap.size w V) := bv
  clear bv h bx
  go_enter Tryz.func58, Tryz.ntmps58
  go_wp2_with (go_at_call 60; refine hmk.mono ?_; rintro _ w9 ⟨rfl, h9⟩; subst w9)
  clear hV
  refine bodyPost_ret ?_ rfl ⟨none, 0, none, 0, none, 0, rfl, zE_own _ _, ?_, zE_sep⟩
  · simp [results, Tryz.results58, go_sem, cx, zE]
  · repeat' (first | (with_reducible exact HB.out) | (with_reducible refine Below.setCell ?_ (by exact Nat.le_refl _) _) | (with_reducible refine Below.alloc ?_ (by simp; omega) _))
end
section
variable {W w w' w2 : World} {X K n mm : Nat} {bv mk ke rm L : Value} {o : Option (Int × Int)} {A A' : List Ent} {τ : Nat → Nat}
theorem x_find (h : SX W X bv mk ke rm L o A A' w) {s : ByteArray} (hk : KeyS s) : Calls Tryz.prog 58 #[bv, .string s] w (EnS w (fdE s A) (fi s A).isSome) := by
  rcases o with _ | ⟨K0, R⟩
  · obtain ⟨rfl, _, _, _, _, rfl, _⟩ := h.sd
    exact find_un_s (Or.inl rfl) s
  · obtain ⟨rfl, rfl, rfl, b, sb, M, v, es, es', hbv, hs⟩ := h.sd
    rw [hbv]
    unfold fdE
    rw [← hs.t.fi_eq]
    cases hf : fi s es with
    | none => exact find_no_s hs.bx hk hf
    | some i =>
      obtain ⟨x, hx, _, _⟩ := fi_some hf
      have hg := hs.t.gt i
      rw [List.getD_eq_getElem?_getD, hx] at hg
      exact (find_yes_s hs.bx hk hf hx).mono fun r w' hq => EnS.tw hg hq
theorem xr_find (h : SX W X bv mk ke rm L o A A w) (s : ByteArray) : Calls Tryz.prog 59 #[.pointer (some ⟨X, 1, none⟩), .string s] w (EnQ w (fdE s A) (fi s A).isSome) := by
  have hbn := h.bnd.2.2
  rcases o with _ | ⟨K0, R⟩
  · obtain ⟨_, _, _, _, rfl, rfl, _⟩ := h.sd
    exact rfind0 h.cells.2.2.1 s
  · obtain ⟨rfl, rfl, rfl, b, sb, M, v, es, es', hbv, hs⟩ := h.sd
    obtain ⟨v5, v6, v7, hX⟩ := h.ex
    unfold fdE
    rw [← hs.t'.fi_eq]
    cases hf : fi s es' with
    | none => exact rfind_no (hs.rbx hX) s hf
    | some i =>
      obtain ⟨x, hx, _, _⟩ := fi_some hf
      have hg := hs.t'.gt i
      rw [List.getD_eq_getElem?_getD, hx] at hg
      obtain ⟨q1, q2, q3⟩ : x.tn ≤ 8192 ∧ x.cn ≤ 2048 ∧ x.an ≤ 2048 := by
        obtain ⟨a, c, a', c', a'', c'', e1⟩ := hg
        have h1 := get_bnd hbn i
        rw [e1] at h1
        exact h1
      exact (rfind_yes (hs.rbx hX) s hf hx ⟨by omega, by omega, by omega⟩).mono fun r w' hq => EnQ.tw hg hq
set_option maxRecDepth 100000 in
set_option maxHeartbeats 8000000 in
theorem finds_s (h : SS W X K bv mk ke rm L o A A τ n mm w) (hn : n ≤ 700000) {s : ByteArray} (hk : KeyS s) :
    Calls Tryz.prog 25 #[.pointer (some ⟨X, 0, none⟩), .string s] w fun r w' => r = .returned (.bool true) ∧ Hid (SQ W X K bv mk ke rm L o A A τ (n + 3) mm w w' (fun _ => False)) := by
  have hfu := x_find h.sx hk
  obtain ⟨q1, q2, q3⟩ := fd_bnd h.sx.bnd.2.2 s
  have HI : Hid (SS W X K bv mk ke rm L o A A τ n mm w) := h
  have HR : Hid (∀ z, Below w.heap.size w z → Calls Tryz.prog 59 #[.pointer (some ⟨X, 1, none⟩), .string s] z (EnQ z (fdE s A) (fi s A).isSome)) := fun z hz => xr_find (h.below hz).sx s
  have x0 := h.cells.1
  generalize fdE s A = m at hfu q1 q2 q3 HR
  generalize (fi s A).isSome = t at hfu HR
  have HN : Hid (m.tn ≤ 8192 ∧ m.cn ≤ 2048 ∧ m.an ≤ 2048) := ⟨q1, q2, q3⟩
  clear q1 q2 q3 h
  go_enter Tryz.func25, Tryz.ntmps25
  go_wp2_with fail
  refine hfu.mono ?_
  rintro _ w1 ⟨a, c, a', c', a'', c'', rfl, ho1, b1, s1⟩
  clear hfu x0
  go_upto_region 2 with fail
  have HV1 : Hid (Below w.heap.size w (w1.alloc (.cells #[.string m.ct, .slice a m.tn c, .int .i64 m.nu, .int .i64 m.tk, .slice a' m.cn c', .string m.cd, .slice a'' m.an c''] 30)) ∧ (w1.alloc (.cells #[.string m.ct, .slice a m.tn c, .int .i64 m.nu, .int .i64 m.tk, .slice a' m.cn c', .string m.cd, .slice a'' m.an c''] 30)).heap[w1.heap.size]? = some (.cells #[.string m.ct, .slice a m.tn c, .int .i64 m.nu, .int .i64 m.tk, .slice a' m.cn c', .string m.cd, .slice a'' m.an c''] 30 (0, 0)) ∧ Own (w1.alloc (.cells #[.string m.ct, .slice a m.tn c, .int .i64 m.nu, .int .i64 m.tk, .slice a' m.cn c', .string m.cd, .slice a'' m.an c''] 30)) w.heap.size (m.wi a c a' c' a'' c'')) := ⟨b1.alloc b1.size _, heap_alloc_new _ _, ho1.below ((Below.refl _ _).alloc (Nat.le_refl _) _)⟩
  have HS1 : Hid (Sep (m.wi a c a' c' a'' c'') ∧ (∀ q, Blk (m.wi a c a' c' a'' c'') q → w.heap.size ≤ q) ∧ w.heap.size ≤ w1.heap.size) := ⟨s1, fun q hq => (ho1.blk hq).1, b1.size⟩
  clear ho1 b1 s1
  obtain ⟨V1, hV1⟩ : ∃ V, w1.alloc (.cells #[.string m.ct, .slice a m.tn c, .int .i64 m.nu, .int .i64 m.tk, .slice a' m.cn c', .string m.cd, .slice a'' m.an c''] 30) = V := ⟨_, rfl⟩
  rw [hV1] at HV1 ⊢
  clear hV1
  obtain ⟨A1, hA1⟩ : ∃ b, w1.heap.size = b := ⟨_, rfl⟩
  rw [hA1] at HV1 ⊢
  have HA1 : Hid (w.heap.size ≤ A1) := by unfold Hid; rw [← hA1]; exact HS1.out.2.2
  clear hA1
  have hfr := HR.out V1 HV1.out.1
  go_wp2_with fail
  refine hfr.mono ?_
  rintro _ w2 ⟨p, d, p', d', p'', d'', rfl, ho2, b2⟩
  clear hfr HR
  go_upto_region 3 with fail
  have HV2 : Hid (Below w.heap.size w (w2.alloc (.cells #[.string m.ct, .slice p m.tn d, .int .i64 m.nu, .int .i64 m.tk, .slice p' m.cn d', .string m.cd, .slice p'' m.an d''] 30)) ∧ (w2.alloc (.cells #[.string m.ct, .slice p m.tn d, .int .i64 m.nu, .int .i64 m.tk, .slice p' m.cn d', .string m.cd, .slice p'' m.an d''] 30)).heap[w2.heap.size]? = some (.cells #[.string m.ct, .slice p m.tn d, .int .i64 m.nu, .int .i64 m.tk, .slice p' m.cn d', .string m.cd, .slice p'' m.an d''] 30 (0, 0)) ∧ Own (w2.alloc (.cells #[.string m.ct, .slice p m.tn d, .int .i64 m.nu, .int .i64 m.tk, .slice p' m.cn d', .string m.cd, .slice p'' m.an d''] 30)) V1.heap.size (m.wi p d p' d' p'' d'') ∧ (w2.alloc (.cells #[.string m.ct, .slice p m.tn d, .int .i64 m.nu, .int .i64 m.tk, .slice p' m.cn d', .string m.cd, .slice p'' m.an d''] 30)).heap[A1]? = some (.cells #[.string m.ct, .slice a m.tn c, .int .i64 m.nu, .int .i64 m.tk, .slice a' m.cn c', .string m.cd, .slice a'' m.an c''] 30 (0, 0)) ∧ Own (w2.alloc (.cells #[.string m.ct, .slice p m.tn d, .int .i64 m.nu, .int .i64 m.tk, .slice p' m.cn d', .string m.cd, .slice p'' m.an d''] 30)) w.heap.size (m.wi a c a' c' a'' c'')) := by
    have b3 : Below V1.heap.size V1 (w2.alloc (.cells #[.string m.ct, .slice p m.tn d, .int .i64 m.nu, .int .i64 m.tk, .slice p' m.cn d', .string m.cd, .slice p'' m.an d''] 30)) := b2.alloc b2.size _
    exact ⟨below_then HV1.out.1 b3, heap_alloc_new _ _, ho2.below ((Below.refl _ _).alloc (Nat.le_refl _) _), blk_below HV1.out.2.1 b3, HV1.out.2.2.below b3⟩
  have HB2 : Hid (w.heap.size ≤ w2.heap.size ∧ w.heap.size ≤ V1.heap.size) := ⟨Nat.le_trans HV1.out.1.size b2.size, HV1.out.1.size⟩
  clear ho2 b2 HV1
  obtain ⟨V2, hV2⟩ : ∃ V, w2.alloc (.cells #[.string m.ct, .slice p m.tn d, .int .i64 m.nu, .int .i64 m.tk, .slice p' m.cn d', .string m.cd, .slice p'' m.an d''] 30) = V := ⟨_, rfl⟩
  rw [hV2] at HV2 ⊢
  clear hV2
  obtain ⟨A2, hA2⟩ : ∃ b, w2.heap.size = b := ⟨_, rfl⟩
  rw [hA2] at HV2 ⊢
  have HA2 : Hid (w.heap.size ≤ A2) := by unfold Hid; rw [← hA2]; exact HB2.out.1
  clear hA2
  have cx := hcell HV2.out.2.2.2.1
  have Hnew := HI.out.new
  have E1 : Hid (TkE V2 W.heap.size τ (m.wi a c a' c' a'' c'')) := ⟨HV2.out.2.2.2.2.base HI.out.bel.size, HS1.out.1, fun q hq => Hnew q (HS1.out.2.1 q hq), HN.out.1, HN.out.2.1, HN.out.2.2⟩
  have htk := (SQ.start (HI.out.below HV2.out.1)).tk (by omega) (m.wi a c a' c' a'' c'') E1.out fun q _ => id
  go_wp2_with fail
  refine htk.mono ?_
  rintro _ w3 ⟨rfl, H3⟩
  clear htk cx
  have cx := hcell (H3.out.blk HV2.out.2.2.2.1 (Hnew _ HA1.out))
  have cy := hcell (H3.out.blk HV2.out.2.1 (Hnew _ HA2.out))
  have hsm := same_true (m.wi a c a' c' a'' c'') (w := w3) (p := p) (c := d) (q := p') (d := d') (r := p'') (f := d'') (H3.out.own E1.out.own E1.out.free).lies (H3.out.own HV2.out.2.2.1 fun q hq => Hnew q (by have := (HV2.out.2.2.1.blk hq).1; have := HB2.out.2; omega)).lies (by show m.tn ≤ _; have := HN.out.1; omega) (by show m.cn ≤ _; have := HN.out.2.1; omega) (by show m.an ≤ _; have := HN.out.2.2; omega)
  have HL : Hid (SQ W X K bv mk ke rm L o A A τ (n + 3) mm w w3 (fun _ => False)) := SQ.lift HV2.out.1 H3.out fun q hq => by
    rcases hq with p | p
    · exact p.elim
    · exact HS1.out.2.1 q p
  clear H3 HV2 HI Hnew E1
  go_wp2_with fail
  refine hsm.mono ?_
  rintro _ w4 ⟨rfl, b4⟩
  have HZ : Hid (SQ W X K bv mk ke rm L o A A τ (n + 3) mm w w4 (fun _ => False)) := HL.out.below b4
  clear hsm b4 cx cy
  go_wp2_with fail
  go_ret
  exact ⟨rfl, HZ⟩
end
end Go.Proofs.YtjbkfppibnlmoaaGreatDoor
