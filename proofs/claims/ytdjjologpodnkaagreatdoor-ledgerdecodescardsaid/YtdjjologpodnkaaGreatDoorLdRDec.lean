/-
  The document's Decode.
-/
import Derived.Test.YtdjjologpodnkaaGreatDoorLdRead
import Derived.Test.YtdjjologpodnkaaGreatDoorLdDec2
namespace Go.Proofs.YtdjjologpodnkaaGreatDoor
open Go.RowKit

/-- What the document's Decode answers. -/
def RDecQ (bs : List Int) (w : World) (e : Ending) (w' : World) : Prop :=
  (∃ (n : Nat) (b : Nat), decR bs = .error n ∧ e = .returned (.tuple #[.agg #[.int .i64 zeroR.kd, .string zeroR.ct, .slice zeroR.tp zeroR.tn zeroR.tc, .bool zeroR.e, .int .i64 zeroR.a, .int .i64 zeroR.p, .int .i64 zeroR.nu, .int .i64 zeroR.tk, .int .i64 zeroR.st, .string zeroR.cd, .slice zeroR.cp zeroR.cn zeroR.cc, .slice zeroR.ap zeroR.an zeroR.ac], .slice (some ⟨b, 0, none⟩) 1 1]) ∧ LinkAt w' b n 10 ∧ Below w.heap.size w w') ∨
  (∃ r : Rec, decR bs = .ok r.bare ∧ e = .returned (.tuple #[.agg #[.int .i64 r.kd, .string r.ct, .slice r.tp r.tn r.tc, .bool r.e, .int .i64 r.a, .int .i64 r.p, .int .i64 r.nu, .int .i64 r.tk, .int .i64 r.st, .string r.cd, .slice r.cp r.cn r.cc, .slice r.ap r.an r.ac], .slice none 0 0]) ∧ RL w' w.heap.size r ∧ Below w.heap.size w w')
theorem rdec_err {w X W' : World} {bs : List Int} {n b : Nat} (hD : decR bs = .error n) (hL : LinkAt X b n 10) (hb : w.heap.size < b) (hB : Below w.heap.size w X) (ho : Off (fun q => q = w.heap.size) X W') : RDecQ bs w (.returned (.tuple #[.agg #[.int .i64 zeroR.kd, .string zeroR.ct, .slice zeroR.tp zeroR.tn zeroR.tc, .bool zeroR.e, .int .i64 zeroR.a, .int .i64 zeroR.p, .int .i64 zeroR.nu, .int .i64 zeroR.tk, .int .i64 zeroR.st, .string zeroR.cd, .slice zeroR.cp zeroR.cn zeroR.cc, .slice zeroR.ap zeroR.an zeroR.ac], .slice (some ⟨b, 0, none⟩) 1 1])) W' := by
  have hl : b < X.heap.size := cell_lt hL.1
  have hk : ∀ o, W'.cell? ⟨b, o, none⟩ = X.cell? ⟨b, o, none⟩ := fun o => ho.cell (p := ⟨b, o, none⟩) hl (by show ¬ b = w.heap.size; omega)
  exact Or.inl ⟨n, b, hD, rfl, ⟨by rw [hk]; exact hL.1, by rw [hk]; exact hL.2.1, by rw [hk]; exact hL.2.2⟩, hB.trans (ho.below hB.size fun k hk => by omega)⟩
theorem rdec_ok {w X W' : World} {bs : List Int} {N : Nat} (r : Rec) (hD : decR bs = .ok r.bare) (hL : RL X N r) (hN : w.heap.size < N) (hB : Below w.heap.size w X) (ho : Off (fun q => q = w.heap.size) X W') : RDecQ bs w (.returned (.tuple #[.agg #[.int .i64 r.kd, .string r.ct, .slice r.tp r.tn r.tc, .bool r.e, .int .i64 r.a, .int .i64 r.p, .int .i64 r.nu, .int .i64 r.tk, .int .i64 r.st, .string r.cd, .slice r.cp r.cn r.cc, .slice r.ap r.an r.ac], .slice none 0 0])) W' := by
  have key : ∀ {v : Value} {l : List Int}, BRow X N v l → BRow W' w.heap.size v l := fun h => ERow.base (brow_off h ho (by intro g h1 _ e; omega)) (by omega)
  exact Or.inr ⟨r, hD, rfl, ⟨key hL.t, key hL.c, key hL.a⟩, hB.trans (ho.below hB.size fun k hk => by omega)⟩
theorem dec_bad {bs : List Int} {e : Nat} (h : rNum bs 0 1 1 8 = .error e) : decR bs = .error e := by
  unfold decR rdRec
  simp only [fdOf, rdFd, h]
theorem dec_good {bs : List Int} {v : Int} (h : rNum bs 0 1 1 8 = .ok v) : decR bs = match rdRec bs 1 (setN zeroR 0 v) 1 9 with
    | .error e => .error e
    | .ok (r, p) => if p < bs.length then .error p else .ok r := by
  unfold decR
  rw [show rdRec bs 0 zeroR 0 10 = rdRec bs 1 (setN zeroR 0 v) 1 9 by
    rw [rdRec]
    simp only [fdOf, rdFd, h]]
  generalize rdRec bs 1 (setN zeroR 0 v) 1 9 = q
  cases q with
  | error e => rfl
  | ok x =>
    obtain ⟨r, p⟩ := x
    rfl
theorem rdRec_ok {bs : List Int} {p p' : Nat} {r r' : Rec} {i : Nat} (h : rdFd bs p r (fdOf r i) = .ok (r', p')) (n : Nat) : rdRec bs p r i (n + 1) = rdRec bs p' r' (i + 1) n := by
  rw [rdRec, h]
theorem rdRec_err {bs : List Int} {p : Nat} {r : Rec} {i e : Nat} (h : rdFd bs p r (fdOf r i) = .error e) (n : Nat) : rdRec bs p r i (n + 1) = .error e := by
  rw [rdRec, h]
theorem piece_one {bs : List Int} (h : 1 ≤ bs.length) : valB (piece bs 0 1) = bs.getD 0 0 := by
  cases bs with
  | nil => simp at h
  | cons a l => simp [piece, valB]
/-- In the midst of the fields: the answer's place at w.heap.size, the reader's behind it, the record's xb. -/
structure LpI (w X : World) (xb : Nat) (po : Option Addr) (c : Nat) (bs : List Int) (k : Nat) (f : Nat) (r : Rec) (p : Nat) (y : Option Nat) : Prop where
  z : Box X w.heap.size zRC
  x : Box X xb (#[.int .i64 r.kd, .string r.ct, .slice r.tp r.tn r.tc, .bool r.e, .int .i64 r.a, .int .i64 r.p, .int .i64 r.nu, .int .i64 r.tk, .int .i64 r.st, .string r.cd, .slice r.cp r.cn r.cc, .slice r.ap r.an r.ac])
  rd : RRd X (w.heap.size + 1) po c bs p y
  b : Below w.heap.size w X
  hx : w.heap.size + 1 < xb
  hX : xb < X.heap.size
  l : y = none → RL X (xb + 1) r ∧ r.kd = k
  sp : (y = none ∧ rdRec bs 1 (setN zeroR 0 (k : Int)) 1 9 = rdRec bs p r.bare (f - 1) (11 - f)) ∨ (∃ e, y = some e ∧ rdRec bs 1 (setN zeroR 0 (k : Int)) 1 9 = .error e)
section
variable {w X Y : World} {xb : Nat} {po : Option Addr} {c : Nat} {bs : List Int} {k f : Nat} {r : Rec} {p : Nat} {y : Option Nat}
theorem LpI.below (h : LpI w X xb po c bs k f r p y) (hb : Below X.heap.size X Y) : LpI w Y xb po c bs k f r p y :=
  ⟨h.z.below hb, h.x.below hb, h.rd.below hb, below_then h.b hb, h.hx, Nat.lt_of_lt_of_le h.hX hb.size, fun g => ⟨⟨ERow.below (h.l g).1.t hb, ERow.below (h.l g).1.c hb, ERow.below (h.l g).1.a hb⟩, (h.l g).2⟩, h.sp⟩
/-- A field that is not named is passed over. -/
theorem LpI.skip (h : LpI w X xb po c bs k f r p none) (h1 : 1 ≤ k) (h8 : k ≤ 8) (h2 : 2 ≤ f) (h10 : f ≤ 10) (hn : nmB k f = false) : LpI w X xb po c bs k (f + 1) r p none := by
  refine ⟨h.z, h.x, h.rd, h.b, h.hx, h.hX, h.l, ?_⟩
  rcases h.sp with ⟨_, g⟩ | ⟨e, g, _⟩
  · refine Or.inl ⟨rfl, g.trans ?_⟩
    rw [show 11 - f = (11 - (f + 1)) + 1 by omega, rdRec_ok (fd_non bs p r k (h.l rfl).2 h1 h8 h2 h10 hn), show f - 1 + 1 = f + 1 - 1 by omega]
  · cases g
theorem rd_kd {bs : List Int} {p p' : Nat} {r r' : Rec} {i : Nat} (h : rdFd bs p r (fdOf r i) = .ok (r', p')) (hi : 1 ≤ i) (h9 : i ≤ 9) : r'.kd = r.kd := by
  rcases (by omega : i = 1 ∨ i = 2 ∨ i = 3 ∨ i = 4 ∨ i = 5 ∨ i = 6 ∨ i = 7 ∨ i = 8 ∨ i = 9) with rfl | rfl | rfl | rfl | rfl | rfl | rfl | rfl | rfl
  all_goals (simp only [fdOf] at h; (repeat' split at h))
  all_goals (simp only [rdFd] at h; (repeat' split at h))
  all_goals (first | cases h | skip)
  all_goals (simp [setN, setS, setB, setC])
/-- A field was read, and the record laid anew. -/
theorem LpI.next (h : LpI w X xb po c bs k f r p none) (h2 : 2 ≤ f) (h10 : f ≤ 10) (HPl : ∀ y, po = some y → y.block < w.heap.size) {r' : Rec} {p' : Nat} {y' : Option Nat} (hR : RRd Y (w.heap.size + 1) po c bs p' y') (ho : Off (fun g => g = w.heap.size + 1) X Y)
    (hq : (rdFd bs p r.bare (fdOf r.bare (f - 1)) = .ok (r'.bare, p') ∧ y' = none ∧ RL Y (xb + 1) r') ∨ (∃ e, rdFd bs p r.bare (fdOf r.bare (f - 1)) = .error e ∧ y' = some e)) :
    Box Y xb (#[.int .i64 r.kd, .string r.ct, .slice r.tp r.tn r.tc, .bool r.e, .int .i64 r.a, .int .i64 r.p, .int .i64 r.nu, .int .i64 r.tk, .int .i64 r.st, .string r.cd, .slice r.cp r.cn r.cc, .slice r.ap r.an r.ac]) ∧ (∀ Z, Box Z xb (#[.int .i64 r'.kd, .string r'.ct, .slice r'.tp r'.tn r'.tc, .bool r'.e, .int .i64 r'.a, .int .i64 r'.p, .int .i64 r'.nu, .int .i64 r'.tk, .int .i64 r'.st, .string r'.cd, .slice r'.cp r'.cn r'.cc, .slice r'.ap r'.an r'.ac]) → Off (fun g => g = xb) Y Z → LpI w Z xb po c bs k (f + 1) r' p' y') := by
  have hx := h.hx
  have hX := h.hX
  refine ⟨h.x.off ho (by omega), fun Z hZ hz => ?_⟩
  have hs := ho.size
  refine ⟨(h.z.off ho (by omega)).off hz (by omega), hZ, hR.off hz (by omega) (fun y hy => ?_), ?_, hx, Nat.lt_of_lt_of_le (Nat.lt_of_lt_of_le hX hs) hz.size, fun g => ?_, ?_⟩
  · have := HPl y hy
    omega
  · exact (h.b.trans (ho.below h.b.size fun k hk => by omega)).trans (hz.below (Nat.le_trans h.b.size hs) fun k hk => by omega)
  · rcases hq with ⟨h3, h4, h5⟩ | ⟨e, _, h4⟩
    · refine ⟨⟨brow_off h5.t hz (by intro g h1 _ e; omega), brow_off h5.c hz (by intro g h1 _ e; omega), brow_off h5.a hz (by intro g h1 _ e; omega)⟩, ?_⟩
      have := rd_kd h3 (by omega) (by omega)
      exact this.trans (h.l rfl).2
    · rw [g] at h4; cases h4
  · rcases h.sp with ⟨_, g⟩ | ⟨e, g, _⟩
    · rw [show 11 - f = (11 - (f + 1)) + 1 by omega] at g
      rcases hq with ⟨h3, h4, _⟩ | ⟨e, h3, h4⟩
      · rw [rdRec_ok h3] at g
        exact Or.inl ⟨h4, g.trans (by rw [show f - 1 + 1 = f + 1 - 1 by omega])⟩
      · rw [rdRec_err h3] at g
        exact Or.inr ⟨e, h4, g⟩
    · cases g
end
set_option maxRecDepth 100000 in
set_option maxHeartbeats 4000000 in
theorem rdecode_any {w : World} {po : Option Addr} {c : Nat} {bs : List Int} (hb : Byts w po bs.length bs) (hn : bs.length ≤ c) (hl : po = none → c = 0) (hR : Rng bs) (hm : bs.length ≤ 9223372036854775807) (hpl : ∀ x, po = some x → x.block < w.heap.size) :
    Calls Tryz.prog 13 #[.slice po bs.length c] w (RDecQ bs w) := by
  have b1 := (Below.refl w.heap.size w).alloc (Nat.le_refl _) (.cells zRC 26)
  have b2 : Below w.heap.size w ((w.alloc (.cells zRC 26)).alloc (.cells #[.slice po bs.length c, .int .i64 0, .int .i64 (-1)] 64)) := b1.alloc b1.size _
  have x1 := (Box.new w zRC 26).alloc (.cells #[.slice po bs.length c, .int .i64 0, .int .i64 (-1)] 64)
  have x2 := Box.new (w.alloc (.cells zRC 26)) #[.slice po bs.length c, .int .i64 0, .int .i64 (-1)] 64
  rw [World.size_alloc] at x2
  have R0 : RRd ((w.alloc (.cells zRC 26)).alloc (.cells #[.slice po bs.length c, .int .i64 0, .int .i64 (-1)] 64)) (w.heap.size + 1) po c bs 0 none := ⟨x2, hb.below b2, Nat.zero_le _, hn, hl, fun y hy => by have := hpl y hy; omega, hm, hR, fun y hy => Nat.lt_of_lt_of_le (hpl y hy) b2.size⟩
  have HP : Hid ((∀ x, po = some x → x.block < w.heap.size) ∧ Rng bs ∧ bs.length ≤ 9223372036854775807) := ⟨hpl, hR, hm⟩
  have HV : Hid (Below w.heap.size w ((w.alloc (.cells zRC 26)).alloc (.cells #[.slice po bs.length c, .int .i64 0, .int .i64 (-1)] 64)) ∧ Box ((w.alloc (.cells zRC 26)).alloc (.cells #[.slice po bs.length c, .int .i64 0, .int .i64 (-1)] 64)) w.heap.size zRC ∧ RRd ((w.alloc (.cells zRC 26)).alloc (.cells #[.slice po bs.length c, .int .i64 0, .int .i64 (-1)] 64)) (w.heap.size + 1) po c bs 0 none) := ⟨b2, x1, R0⟩
  have hlen : ∀ X1, Off (fun q => q = w.heap.size + 1) ((w.alloc (.cells zRC 26)).alloc (.cells #[.slice po bs.length c, .int .i64 0, .int .i64 (-1)] 64)) X1 → w.heap.size + 1 < X1.heap.size := fun X1 ho => by have := ho.size; simp only [World.size_alloc] at this; omega
  have HLN : Hid (type_of% hlen) := hlen
  rcases Nat.eq_zero_or_pos bs.length with h0 | h0
  · have ht := rtake_s (m := 1) R0 (by omega)
    have HD : Hid (decR bs = .error 0) := dec_bad (by unfold rNum; rw [if_neg (by omega), h0])
    clear b1 b2 x1 x2 R0 hb hn hl hR hm hpl hlen h0
    go_enter Tryz.func13, Tryz.ntmps13
    go_wp2_with fail
    refine ht.mono ?_
    rintro _ X1 ⟨rfl, H1⟩
    have hz1 := (HV.out.2.1.off H1.out.2 (by omega)).alloc (.cells zRC 26)
    have HB1 : Hid (Below w.heap.size w (X1.alloc (.cells zRC 26))) := bl_alloc (HV.out.1.trans (H1.out.2.below HV.out.1.size fun k hk => by omega)) _
    have HL1 : Hid (w.heap.size < (X1.alloc (.cells zRC 26)).heap.size) := by have := HLN.out _ H1.out.2; unfold Hid; simp only [World.size_alloc]; omega
    clear ht
    go_wp2_with fail
    refine (rFault_any 10 0 _).mono ?_
    rintro _ X9 ⟨rfl, hl9, hb9⟩
    have HX9 : Hid (LinkAt X9 (X1.alloc (.cells zRC 26)).heap.size 0 10 ∧ Below w.heap.size w X9 ∧ w.heap.size < (X1.alloc (.cells zRC 26)).heap.size) := ⟨hl9, below_then HB1.out hb9, HL1.out⟩
    have hz9 := hz1.below hb9
    have dy9 := hz9.cell
    have ey9 := hz9.free
    obtain ⟨fb, hfb⟩ : ∃ n, (X1.alloc (.cells zRC 26)).heap.size = n := ⟨_, rfl⟩
    rw [hfb] at HX9 ⊢
    clear hl9 hb9 hz9 hfb
    go_wp2_with fail
    refine bodyPost_ret (v := .tuple #[.agg #[.int .i64 zeroR.kd, .string zeroR.ct, .slice zeroR.tp zeroR.tn zeroR.tc, .bool zeroR.e, .int .i64 zeroR.a, .int .i64 zeroR.p, .int .i64 zeroR.nu, .int .i64 zeroR.tk, .int .i64 zeroR.st, .string zeroR.cd, .slice zeroR.cp zeroR.cn zeroR.cc, .slice zeroR.ap zeroR.an zeroR.ac], .slice (some ⟨fb, 0, none⟩) 1 1]) ?_ rfl (rdec_err HD.out HX9.out.1 HX9.out.2.2 HX9.out.2.1 ?_)
    · simp [results, Tryz.results13, go_sem, dy9]
    · iterate 12 (refine Off.setCell (P := fun q => q = w.heap.size) ?_ rfl _)
      exact Off.refl _ _
  · have ht := rtake_n (m := 1) R0 (by omega)
    obtain ⟨v, hv⟩ : ∃ v, bs.getD 0 0 = v := ⟨_, rfl⟩
    have hvr := getD_rng hR (show 0 < bs.length from h0)
    rw [hv] at hvr
    have HNm : Hid ((1 ≤ v ∧ v ≤ 8 → rNum bs 0 1 1 8 = .ok v) ∧ (¬ (1 ≤ v ∧ v ≤ 8) → rNum bs 0 1 1 8 = .error 0)) := by
      unfold Hid rNum
      rw [if_pos (by omega), piece_one h0, hv]
      exact ⟨fun g => if_pos g, fun g => if_neg g⟩
    have wv : IntKind.i64.wrap v = v := by rw [IntKind.wrap_i64]; omega
    clear b1 b2 x1 x2 R0 hb hn hl hR hm hpl hlen h0
    go_enter Tryz.func13, Tryz.ntmps13
    go_wp2_with fail
    refine ht.mono ?_
    rintro _ X1 ⟨rfl, H1⟩
    obtain ⟨b0, o0, ha, hl0, hc0⟩ := H1.out.2.2.cell 0 (by omega)
    rw [piece_getD (by omega)] at hc0
    simp only [Nat.add_zero, hv] at hc0
    rw [ha]
    generalize c - 0 = cp
    have hc1 : (X1.alloc (.cells zRC 26)).cell? ⟨b0, o0, none⟩ = some (.int .u8 v) := (World.cell?_alloc_lt _ _ ⟨b0, o0, none⟩ hl0).trans hc0
    have hz1 := (HV.out.2.1.off H1.out.2.1 (by omega)).alloc (.cells zRC 26)
    have HB1 : Hid (Below w.heap.size w (X1.alloc (.cells zRC 26)) ∧ w.heap.size + 1 < X1.heap.size) := ⟨bl_alloc (HV.out.1.trans (H1.out.2.1.below HV.out.1.size fun k hk => by omega)) _, HLN.out _ H1.out.2.1⟩
    clear ht ha hl0 hc0
    by_cases g0 : v < 1
    · have HD : Hid (decR bs = .error 0) := dec_bad (HNm.out.2 fun g => by omega)
      have hz2 : Box (X1.alloc (.cells #[.int .i64 v, .string ⟨#[]⟩, .slice none 0 0, .bool false, .int .i64 0, .int .i64 0, .int .i64 0, .int .i64 0, .int .i64 0, .string ⟨#[]⟩, .slice none 0 0, .slice none 0 0] 26)) w.heap.size zRC := (HV.out.2.1.off H1.out.2.1 (by omega)).alloc _
      have HB2 : Hid (Below w.heap.size w (X1.alloc (.cells #[.int .i64 v, .string ⟨#[]⟩, .slice none 0 0, .bool false, .int .i64 0, .int .i64 0, .int .i64 0, .int .i64 0, .int .i64 0, .string ⟨#[]⟩, .slice none 0 0, .slice none 0 0] 26))) := bl_alloc (HV.out.1.trans (H1.out.2.1.below HV.out.1.size fun k hk => by omega)) _
      have HL2 : Hid (w.heap.size < (X1.alloc (.cells #[.int .i64 v, .string ⟨#[]⟩, .slice none 0 0, .bool false, .int .i64 0, .int .i64 0, .int .i64 0, .int .i64 0, .int .i64 0, .string ⟨#[]⟩, .slice none 0 0, .slice none 0 0] 26)).heap.size) := by have := HB1.out.2; unfold Hid; simp only [World.size_alloc]; omega
      clear hz1
      go_wp2_with fail
      refine (rFault_any 10 0 _).mono ?_
      rintro _ X9 ⟨rfl, hl9, hb9⟩
      have HX9 : Hid (LinkAt X9 (X1.alloc (.cells #[.int .i64 v, .string ⟨#[]⟩, .slice none 0 0, .bool false, .int .i64 0, .int .i64 0, .int .i64 0, .int .i64 0, .int .i64 0, .string ⟨#[]⟩, .slice none 0 0, .slice none 0 0] 26)).heap.size 0 10 ∧ Below w.heap.size w X9 ∧ w.heap.size < (X1.alloc (.cells #[.int .i64 v, .string ⟨#[]⟩, .slice none 0 0, .bool false, .int .i64 0, .int .i64 0, .int .i64 0, .int .i64 0, .int .i64 0, .string ⟨#[]⟩, .slice none 0 0, .slice none 0 0] 26)).heap.size) := ⟨hl9, below_then HB2.out hb9, HL2.out⟩
      have hz9 := hz2.below hb9
      have dy9 := hz9.cell
      have ey9 := hz9.free
      obtain ⟨fb, hfb⟩ : ∃ n, (X1.alloc (.cells #[.int .i64 v, .string ⟨#[]⟩, .slice none 0 0, .bool false, .int .i64 0, .int .i64 0, .int .i64 0, .int .i64 0, .int .i64 0, .string ⟨#[]⟩, .slice none 0 0, .slice none 0 0] 26)).heap.size = n := ⟨_, rfl⟩
      rw [hfb] at HX9 ⊢
      clear hl9 hb9 hz9 hfb
      go_wp2_with fail
      refine bodyPost_ret (v := .tuple #[.agg #[.int .i64 zeroR.kd, .string zeroR.ct, .slice zeroR.tp zeroR.tn zeroR.tc, .bool zeroR.e, .int .i64 zeroR.a, .int .i64 zeroR.p, .int .i64 zeroR.nu, .int .i64 zeroR.tk, .int .i64 zeroR.st, .string zeroR.cd, .slice zeroR.cp zeroR.cn zeroR.cc, .slice zeroR.ap zeroR.an zeroR.ac], .slice (some ⟨fb, 0, none⟩) 1 1]) ?_ rfl (rdec_err HD.out HX9.out.1 HX9.out.2.2 HX9.out.2.1 ?_)
      · simp [results, Tryz.results13, go_sem, dy9]
      · iterate 12 (refine Off.setCell (P := fun q => q = w.heap.size) ?_ rfl _)
        exact Off.refl _ _
    by_cases g1 : v > 8
    · have HD : Hid (decR bs = .error 0) := dec_bad (HNm.out.2 fun g => by omega)
      have hz2 : Box (X1.alloc (.cells #[.int .i64 v, .string ⟨#[]⟩, .slice none 0 0, .bool false, .int .i64 0, .int .i64 0, .int .i64 0, .int .i64 0, .int .i64 0, .string ⟨#[]⟩, .slice none 0 0, .slice none 0 0] 26)) w.heap.size zRC := (HV.out.2.1.off H1.out.2.1 (by omega)).alloc _
      have HB2 : Hid (Below w.heap.size w (X1.alloc (.cells #[.int .i64 v, .string ⟨#[]⟩, .slice none 0 0, .bool false, .int .i64 0, .int .i64 0, .int .i64 0, .int .i64 0, .int .i64 0, .string ⟨#[]⟩, .slice none 0 0, .slice none 0 0] 26))) := bl_alloc (HV.out.1.trans (H1.out.2.1.below HV.out.1.size fun k hk => by omega)) _
      have HL2 : Hid (w.heap.size < (X1.alloc (.cells #[.int .i64 v, .string ⟨#[]⟩, .slice none 0 0, .bool false, .int .i64 0, .int .i64 0, .int .i64 0, .int .i64 0, .int .i64 0, .string ⟨#[]⟩, .slice none 0 0, .slice none 0 0] 26)).heap.size) := by have := HB1.out.2; unfold Hid; simp only [World.size_alloc]; omega
      clear hz1
      go_wp2_with fail
      refine (rFault_any 10 0 _).mono ?_
      rintro _ X9 ⟨rfl, hl9, hb9⟩
      have HX9 : Hid (LinkAt X9 (X1.alloc (.cells #[.int .i64 v, .string ⟨#[]⟩, .slice none 0 0, .bool false, .int .i64 0, .int .i64 0, .int .i64 0, .int .i64 0, .int .i64 0, .string ⟨#[]⟩, .slice none 0 0, .slice none 0 0] 26)).heap.size 0 10 ∧ Below w.heap.size w X9 ∧ w.heap.size < (X1.alloc (.cells #[.int .i64 v, .string ⟨#[]⟩, .slice none 0 0, .bool false, .int .i64 0, .int .i64 0, .int .i64 0, .int .i64 0, .int .i64 0, .string ⟨#[]⟩, .slice none 0 0, .slice none 0 0] 26)).heap.size) := ⟨hl9, below_then HB2.out hb9, HL2.out⟩
      have hz9 := hz2.below hb9
      have dy9 := hz9.cell
      have ey9 := hz9.free
      obtain ⟨fb, hfb⟩ : ∃ n, (X1.alloc (.cells #[.int .i64 v, .string ⟨#[]⟩, .slice none 0 0, .bool false, .int .i64 0, .int .i64 0, .int .i64 0, .int .i64 0, .int .i64 0, .string ⟨#[]⟩, .slice none 0 0, .slice none 0 0] 26)).heap.size = n := ⟨_, rfl⟩
      rw [hfb] at HX9 ⊢
      clear hl9 hb9 hz9 hfb
      go_wp2_with fail
      refine bodyPost_ret (v := .tuple #[.agg #[.int .i64 zeroR.kd, .string zeroR.ct, .slice zeroR.tp zeroR.tn zeroR.tc, .bool zeroR.e, .int .i64 zeroR.a, .int .i64 zeroR.p, .int .i64 zeroR.nu, .int .i64 zeroR.tk, .int .i64 zeroR.st, .string zeroR.cd, .slice zeroR.cp zeroR.cn zeroR.cc, .slice zeroR.ap zeroR.an zeroR.ac], .slice (some ⟨fb, 0, none⟩) 1 1]) ?_ rfl (rdec_err HD.out HX9.out.1 HX9.out.2.2 HX9.out.2.1 ?_)
      · simp [results, Tryz.results13, go_sem, dy9]
      · iterate 12 (refine Off.setCell (P := fun q => q = w.heap.size) ?_ rfl _)
        exact Off.refl _ _
    obtain ⟨k, rfl⟩ : ∃ k : Nat, v = k := ⟨v.toNat, by omega⟩
    have HK : Hid (1 ≤ k ∧ k ≤ 8) := ⟨by omega, by omega⟩
    have HDG : Hid (type_of% (dec_good (HNm.out.1 ⟨by omega, by omega⟩))) := dec_good (HNm.out.1 ⟨by omega, by omega⟩)
    have xV := Box.new X1 (#[.int .i64 (setN zeroR 0 (k : Int)).kd, .string (setN zeroR 0 (k : Int)).ct, .slice (setN zeroR 0 (k : Int)).tp (setN zeroR 0 (k : Int)).tn (setN zeroR 0 (k : Int)).tc, .bool (setN zeroR 0 (k : Int)).e, .int .i64 (setN zeroR 0 (k : Int)).a, .int .i64 (setN zeroR 0 (k : Int)).p, .int .i64 (setN zeroR 0 (k : Int)).nu, .int .i64 (setN zeroR 0 (k : Int)).tk, .int .i64 (setN zeroR 0 (k : Int)).st, .string (setN zeroR 0 (k : Int)).cd, .slice (setN zeroR 0 (k : Int)).cp (setN zeroR 0 (k : Int)).cn (setN zeroR 0 (k : Int)).cc, .slice (setN zeroR 0 (k : Int)).ap (setN zeroR 0 (k : Int)).an (setN zeroR 0 (k : Int)).ac]) 26
    have bV : Below X1.heap.size X1 (X1.alloc (.cells (#[.int .i64 (setN zeroR 0 (k : Int)).kd, .string (setN zeroR 0 (k : Int)).ct, .slice (setN zeroR 0 (k : Int)).tp (setN zeroR 0 (k : Int)).tn (setN zeroR 0 (k : Int)).tc, .bool (setN zeroR 0 (k : Int)).e, .int .i64 (setN zeroR 0 (k : Int)).a, .int .i64 (setN zeroR 0 (k : Int)).p, .int .i64 (setN zeroR 0 (k : Int)).nu, .int .i64 (setN zeroR 0 (k : Int)).tk, .int .i64 (setN zeroR 0 (k : Int)).st, .string (setN zeroR 0 (k : Int)).cd, .slice (setN zeroR 0 (k : Int)).cp (setN zeroR 0 (k : Int)).cn (setN zeroR 0 (k : Int)).cc, .slice (setN zeroR 0 (k : Int)).ap (setN zeroR 0 (k : Int)).an (setN zeroR 0 (k : Int)).ac]) 26)) := bl_alloc (Below.refl _ _) _
    have HI0 : Hid (LpI w (X1.alloc (.cells (#[.int .i64 (setN zeroR 0 (k : Int)).kd, .string (setN zeroR 0 (k : Int)).ct, .slice (setN zeroR 0 (k : Int)).tp (setN zeroR 0 (k : Int)).tn (setN zeroR 0 (k : Int)).tc, .bool (setN zeroR 0 (k : Int)).e, .int .i64 (setN zeroR 0 (k : Int)).a, .int .i64 (setN zeroR 0 (k : Int)).p, .int .i64 (setN zeroR 0 (k : Int)).nu, .int .i64 (setN zeroR 0 (k : Int)).tk, .int .i64 (setN zeroR 0 (k : Int)).st, .string (setN zeroR 0 (k : Int)).cd, .slice (setN zeroR 0 (k : Int)).cp (setN zeroR 0 (k : Int)).cn (setN zeroR 0 (k : Int)).cc, .slice (setN zeroR 0 (k : Int)).ap (setN zeroR 0 (k : Int)).an (setN zeroR 0 (k : Int)).ac]) 26)) X1.heap.size po c bs k 2 (setN zeroR 0 (k : Int)) 1 none) :=
      ⟨(HV.out.2.1.off H1.out.2.1 (by omega)).alloc _, xV, H1.out.1.below bV, below_then (HV.out.1.trans (H1.out.2.1.below HV.out.1.size fun k hk => by omega)) bV, HB1.out.2, xV.lt, fun _ => ⟨⟨ERow.nil _ _ _ _ _, ERow.nil _ _ _ _ _, ERow.nil _ _ _ _ _⟩, rfl⟩, Or.inl ⟨rfl, rfl⟩⟩
    clear xV bV hz1 hvr HNm hv
    go_wp2_with fail
    have HI1 : Hid (LpI w (X1.alloc (.cells #[.int .i64 (k : Int), .string ⟨#[]⟩, .slice none 0 0, .bool false, .int .i64 0, .int .i64 0, .int .i64 0, .int .i64 0, .int .i64 0, .string ⟨#[]⟩, .slice none 0 0, .slice none 0 0] 26)) X1.heap.size po c bs k 2 (setN zeroR 0 (k : Int)) 1 none) := HI0.out
    obtain ⟨xb, hxb⟩ : ∃ n, X1.heap.size = n := ⟨_, rfl⟩
    rw [hxb] at HI1 ⊢
    generalize (X1.alloc (.cells #[.int .i64 (k : Int), .string ⟨#[]⟩, .slice none 0 0, .bool false, .int .i64 0, .int .i64 0, .int .i64 0, .int .i64 0, .int .i64 0, .string ⟨#[]⟩, .slice none 0 0, .slice none 0 0] 26)) = V2 at HI1 ⊢
    clear HI0 hc1 wv hxb HB1 H1 g0 g1
    go_loopw [7] (fun t7 wx => ∃ (f : Nat) (r : Rec) (p : Nat) (y : Option Nat), 2 ≤ f ∧ f ≤ 11 ∧ t7 = .int .i64 f ∧ Hid (LpI w wx xb po c bs k f r p y)) (fun t7 _ => 11 - (intOf t7).toNat)
    case atStart => exact ⟨2, _, 1, none, by omega, by omega, rfl, HI1.out⟩
    case round =>
      obtain ⟨f, r, p, y, h2, hf, rfl, HI⟩ := hrel
      clear HI1
      cases y with
      | none =>
        have cr : ∀ o, wr.cell? ⟨w.heap.size + 1, o, none⟩ = (#[.slice po bs.length c, .int .i64 p, .int .i64 (-1)] : Array Value)[o]? := HI.out.rd.box.cell
        have cx := HI.out.x.cell
        by_cases hlt : f ≤ 10
        · have hlt1 : (f : Int) ≤ 10 := by omega
          have hn : Calls Tryz.prog 20 #[.int .i64 r.kd, .int .i64 f] wr fun e w' => e = .returned (.bool (nmB k f)) ∧ Below wr.heap.size wr w' := by rw [(HI.out.l rfl).2]; exact rNamed_any k f HK.out.2 wr
          go_wp2_with fail
          refine hn.mono ?_
          rintro _ w2 ⟨rfl, hb2⟩
          have HI2 : Hid (LpI w w2 xb po c bs k f r p none) := HI.out.below hb2
          clear hn hb2 cx cr HI
          cases hnm : nmB k f with
          | false =>
            have HI3 : Hid (LpI w w2 xb po c bs k (f + 1) r p none) := HI2.out.skip HK.out.1 HK.out.2 h2 hlt hnm
            clear hnm
            go_wp2_with fail
            go_roundw
            case rel => exact ⟨f + 1, r, p, none, by omega, by omega, by go_num, HI3.out⟩
            case measure => simp [intOf]; omega
          | true =>
            have hrd := rread_any r HI2.out.rd (N := xb + 1) (by have := HI2.out.hx; omega) (by have := HI2.out.hX; omega) (HI2.out.l rfl).1 k (HI2.out.l rfl).2 HK.out.1 HK.out.2 h2 hlt hnm
            have cx2 := HI2.out.x.cell
            clear hnm
            go_wp2_with fail
            refine hrd.mono ?_
            rintro _ w3 ⟨r', p', y', rfl, H3⟩
            obtain ⟨hx3, hnx⟩ := HI2.out.next h2 hlt HP.out.1 H3.out.1 H3.out.2.1 H3.out.2.2
            obtain ⟨g1, g2⟩ := rec_put r' hx3
            have HG := hnx _ g1 g2
            have HG2 : Hid (type_of% HG) := HG
            have cx3 := hx3.cell
            have fx3 := hx3.free
            clear hrd cx2 hx3 hnx g1 g2 HG HI2 H3
            go_wp2_with fail
            go_roundw
            case rel => exact ⟨f + 1, r', p', y', by omega, by omega, by go_num, HG2.out⟩
            case measure => simp [intOf]; omega
        · have hlt1 : ¬ (f : Int) ≤ 10 := by omega
          obtain rfl : f = 11 := by omega
          have hsp : rdRec bs 1 (setN zeroR 0 (k : Int)) 1 9 = .ok (r.bare, p) := by
            rcases HI.out.sp with ⟨_, g⟩ | ⟨e, g, _⟩
            · exact g
            · cases g
          by_cases hp : p < bs.length
          · have hp1 : (p : Int) < bs.length := by omega
            have HD : Hid (decR bs = .error p) := by unfold Hid; rw [HDG.out, hsp]; exact if_pos hp
            have hf4 := rfault_any HI.out.rd p
            have HZ4 : Hid (∀ X4, Off (fun q => q = w.heap.size + 1) wr X4 → Box X4 w.heap.size zRC ∧ Below w.heap.size w X4 ∧ w.heap.size < X4.heap.size) := fun X4 ho => ⟨HI.out.z.off ho (by omega), HI.out.b.trans (ho.below HI.out.b.size fun k hk => by omega), by have h1 := HI.out.hx; have h2 := HI.out.hX; have h3 := ho.size; omega⟩
            clear hp hsp
            go_wp2_with fail
            refine hf4.mono ?_
            rintro _ X4 ⟨rfl, H4⟩
            have cr4 : ∀ o, X4.cell? ⟨w.heap.size + 1, o, none⟩ = (#[.slice po bs.length c, .int .i64 p, .int .i64 p] : Array Value)[o]? := H4.out.1.box.cell
            obtain ⟨E, hE⟩ : ∃ E : Int, (p : Int) = E := ⟨_, rfl⟩
            have HEE : Hid ((p : Int) = E) := hE
            rw [hE] at cr4
            have q2 : decide (E ≥ 0) = true := decide_eq_true (by omega)
            have q3 : E ≥ 0 := by omega
            obtain ⟨hz4, HB4, HL4⟩ := HZ4.out _ H4.out.2
            have HB4' : Hid (Below w.heap.size w X4 ∧ w.heap.size < X4.heap.size) := ⟨HB4, HL4⟩
            clear hf4 cr cx HB4 HL4 hE hp1
            go_wp2_with fail
            refine (rFault_any 10 E _).mono ?_
            rintro _ X9 ⟨rfl, hl9, hb9⟩
            have HX9 : Hid (LinkAt X9 X4.heap.size (p : Int) 10 ∧ Below w.heap.size w X9 ∧ w.heap.size < X4.heap.size) := ⟨(by rw [HEE.out]; exact hl9), below_then HB4'.out.1 hb9, HB4'.out.2⟩
            have hz9 := hz4.below hb9
            have dy9 := hz9.cell
            have ey9 := hz9.free
            obtain ⟨fb, hfb⟩ : ∃ n, X4.heap.size = n := ⟨_, rfl⟩
            rw [hfb] at HX9 ⊢
            clear hl9 hb9 hz9 hfb
            go_wp2_with fail
            refine bodyPost_ret (v := .tuple #[.agg #[.int .i64 zeroR.kd, .string zeroR.ct, .slice zeroR.tp zeroR.tn zeroR.tc, .bool zeroR.e, .int .i64 zeroR.a, .int .i64 zeroR.p, .int .i64 zeroR.nu, .int .i64 zeroR.tk, .int .i64 zeroR.st, .string zeroR.cd, .slice zeroR.cp zeroR.cn zeroR.cc, .slice zeroR.ap zeroR.an zeroR.ac], .slice (some ⟨fb, 0, none⟩) 1 1]) ?_ rfl (rdec_err HD.out HX9.out.1 HX9.out.2.2 HX9.out.2.1 ?_)
            · simp [results, Tryz.results13, go_sem, dy9]
            · iterate 12 (refine Off.setCell (P := fun q => q = w.heap.size) ?_ rfl _)
              exact Off.refl _ _
          · have hp1 : ¬ (p : Int) < bs.length := by omega
            have HD : Hid (decR bs = .ok r.bare) := by unfold Hid; rw [HDG.out, hsp]; exact if_neg hp
            have hz4 := HI.out.z
            have dy := hz4.cell
            have ey := hz4.free
            clear hp hsp hz4
            go_wp2_with fail
            refine bodyPost_ret (v := .tuple #[.agg #[.int .i64 r.kd, .string r.ct, .slice r.tp r.tn r.tc, .bool r.e, .int .i64 r.a, .int .i64 r.p, .int .i64 r.nu, .int .i64 r.tk, .int .i64 r.st, .string r.cd, .slice r.cp r.cn r.cc, .slice r.ap r.an r.ac], .slice none 0 0]) ?_ rfl (rdec_ok r HD.out (HI.out.l rfl).1 (by have := HI.out.hx; omega) HI.out.b ?_)
            · simp [results, Tryz.results13, go_sem, dy]
            · iterate 12 (refine Off.setCell (P := fun q => q = w.heap.size) ?_ rfl _)
              exact Off.refl _ _
      | some e =>
        have HD : Hid (decR bs = .error e) := by
          rcases HI.out.sp with ⟨g, _⟩ | ⟨e', g, h⟩
          · cases g
          · cases g
            unfold Hid
            rw [HDG.out, h]
        have cr : ∀ o, wr.cell? ⟨w.heap.size + 1, o, none⟩ = (#[.slice po bs.length c, .int .i64 p, .int .i64 e] : Array Value)[o]? := HI.out.rd.box.cell
        obtain ⟨E, hE⟩ : ∃ E : Int, (e : Int) = E := ⟨_, rfl⟩
        have HEE : Hid ((e : Int) = E) := hE
        rw [hE] at cr
        have q1 : decide (E < 0) = false := decide_eq_false (by omega)
        have q2 : decide (E ≥ 0) = true := decide_eq_true (by omega)
        have hz4 := HI.out.z
        have HB4' : Hid (Below w.heap.size w wr ∧ w.heap.size < wr.heap.size) := ⟨HI.out.b, by have h1 := HI.out.hx; have h2 := HI.out.hX; omega⟩
        clear hE
        by_cases hlt : f ≤ 10
        · have hlt1 : (f : Int) ≤ 10 := by omega
          go_wp2_with fail
          refine (rFault_any 10 E _).mono ?_
          rintro _ X9 ⟨rfl, hl9, hb9⟩
          have HX9 : Hid (LinkAt X9 wr.heap.size (e : Int) 10 ∧ Below w.heap.size w X9 ∧ w.heap.size < wr.heap.size) := ⟨(by rw [HEE.out]; exact hl9), below_then HB4'.out.1 hb9, HB4'.out.2⟩
          have hz9 := hz4.below hb9
          have dy9 := hz9.cell
          have ey9 := hz9.free
          obtain ⟨fb, hfb⟩ : ∃ n, wr.heap.size = n := ⟨_, rfl⟩
          rw [hfb] at HX9 ⊢
          clear hl9 hb9 hz9 hfb
          go_wp2_with fail
          refine bodyPost_ret (v := .tuple #[.agg #[.int .i64 zeroR.kd, .string zeroR.ct, .slice zeroR.tp zeroR.tn zeroR.tc, .bool zeroR.e, .int .i64 zeroR.a, .int .i64 zeroR.p, .int .i64 zeroR.nu, .int .i64 zeroR.tk, .int .i64 zeroR.st, .string zeroR.cd, .slice zeroR.cp zeroR.cn zeroR.cc, .slice zeroR.ap zeroR.an zeroR.ac], .slice (some ⟨fb, 0, none⟩) 1 1]) ?_ rfl (rdec_err HD.out HX9.out.1 HX9.out.2.2 HX9.out.2.1 ?_)
          · simp [results, Tryz.results13, go_sem, dy9]
          · iterate 12 (refine Off.setCell (P := fun q => q = w.heap.size) ?_ rfl _)
            exact Off.refl _ _
        · have hlt1 : ¬ (f : Int) ≤ 10 := by omega
          go_wp2_with fail
          refine (rFault_any 10 E _).mono ?_
          rintro _ X9 ⟨rfl, hl9, hb9⟩
          have HX9 : Hid (LinkAt X9 wr.heap.size (e : Int) 10 ∧ Below w.heap.size w X9 ∧ w.heap.size < wr.heap.size) := ⟨(by rw [HEE.out]; exact hl9), below_then HB4'.out.1 hb9, HB4'.out.2⟩
          have hz9 := hz4.below hb9
          have dy9 := hz9.cell
          have ey9 := hz9.free
          obtain ⟨fb, hfb⟩ : ∃ n, wr.heap.size = n := ⟨_, rfl⟩
          rw [hfb] at HX9 ⊢
          clear hl9 hb9 hz9 hfb
          go_wp2_with fail
          refine bodyPost_ret (v := .tuple #[.agg #[.int .i64 zeroR.kd, .string zeroR.ct, .slice zeroR.tp zeroR.tn zeroR.tc, .bool zeroR.e, .int .i64 zeroR.a, .int .i64 zeroR.p, .int .i64 zeroR.nu, .int .i64 zeroR.tk, .int .i64 zeroR.st, .string zeroR.cd, .slice zeroR.cp zeroR.cn zeroR.cc, .slice zeroR.ap zeroR.an zeroR.ac], .slice (some ⟨fb, 0, none⟩) 1 1]) ?_ rfl (rdec_err HD.out HX9.out.1 HX9.out.2.2 HX9.out.2.1 ?_)
          · simp [results, Tryz.results13, go_sem, dy9]
          · iterate 12 (refine Off.setCell (P := fun q => q = w.heap.size) ?_ rfl _)
            exact Off.refl _ _
end Go.Proofs.YtdjjologpodnkaaGreatDoor
