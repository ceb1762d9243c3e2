/-
  Reading a field, whatever it is.
-/
import Derived.Test.YtdjjologpodnkaaGreatDoorLdFld
namespace Go.Proofs.YtdjjologpodnkaaGreatDoor
open Go.RowKit

/-- What reading a field comes to, in memory. -/
def FldQ (w : World) (N fb rb : Nat) (po : Option Addr) (c : Nat) (bs : List Int) (p : Nat) (r : Rec) (fd : Fd) (e : Ending) (z : World) : Prop :=
  (∃ n : Int, e = gaveUp n ∧ Hid (∃ m : Nat, n = m ∧ rdFd bs p r.bare fd = .error m ∧ Off (fun q => q = fb ∨ q = rb) w z ∧ ∃ r' : Rec, Box z rb (#[.int .i64 r'.kd, .string r'.ct, .slice r'.tp r'.tn r'.tc, .bool r'.e, .int .i64 r'.a, .int .i64 r'.p, .int .i64 r'.nu, .int .i64 r'.tk, .int .i64 r'.st, .string r'.cd, .slice r'.cp r'.cn r'.cc, .slice r'.ap r'.an r'.ac]))) ∨
  (e = .returned (.tuple #[]) ∧ Hid (∃ r' p', rdFd bs p r.bare fd = .ok (r'.bare, p') ∧ RdI z N fb rb po c bs p' r' ∧ Off (fun q => q = fb ∨ q = rb) w z))
theorem bare_N (r : Rec) (o : Nat) (v : Int) : setN r.bare o v = (setN r o v).bare := by unfold setN; split; rfl; split; rfl; split <;> rfl
theorem bare_S (r : Rec) (o : Nat) (s : ByteArray) : setS r.bare o s = (setS r o s).bare := by unfold setS; split <;> rfl
theorem bare_B (r : Rec) (o : Nat) (a : Option Addr) (c : Nat) (l : List Int) : setB r.bare o none 0 l = (setB r o a c l).bare := by unfold setB; split; rfl; split <;> rfl
theorem bare_C (r : Rec) (x : Bool) (y z : Int) : setC r.bare x y z = (setC r x y z).bare := rfl
section
variable {w : World} {N fb rb : Nat} {po : Option Addr} {c : Nat} {bs : List Int} {p : Nat} {r : Rec}
theorem num_fd (h : RdI w N fb rb po c bs p r) {o : Nat} {v0 : Int} {sz : Nat} {lo hi : Int} (hs : FdSh (.num o v0 sz lo hi)) :
    Calls Tryz.prog 115 #[.agg #[.pointer (some ⟨rb, o, none⟩), .int .i64 sz, .int .i64 lo, .int .i64 hi], .pointer (some ⟨fb, 0, none⟩)] w (FldQ w N fb rb po c bs p r (.num o v0 sz lo hi)) := by
  obtain ⟨ho, s1, s2, s3, s4, s5⟩ := hs
  cases hn : rNum bs p sz lo hi with
  | error e =>
    refine (num_read_no h.rdr sz s1 lo hi s2 s3 s4 s5 hn).mono ?_
    rintro _ z ⟨rfl, hz⟩
    exact Or.inl ⟨e, rfl, e, rfl, by simp only [rdFd, hn], hz.mono (fun _ g => Or.inl g), r, h.box.off hz h.hrf⟩
  | ok v =>
    refine (num_read_ok h.rdr sz s1 lo hi s2 s3 s4 s5 (h.cel (by omega)) h.hrf hn).mono ?_
    rintro _ z ⟨W1, rfl, H1, rfl⟩
    have h1 := h.adv H1.out.1 H1.out.2
    obtain ⟨h2, h3⟩ : RdI (W1.setCell ⟨rb, o, none⟩ (.int .i64 v)) N fb rb po c bs (p + sz) (setN r o v) ∧ Off (fun q => q = fb ∨ q = rb) W1 (W1.setCell ⟨rb, o, none⟩ (.int .i64 v)) := by
      rcases ho with rfl | rfl | rfl | rfl
      all_goals exact h1.set (by omega) rfl h1.lt h1.lc h1.la
    exact Or.inr ⟨rfl, setN r o v, p + sz, by simp only [rdFd, hn, bare_N], h2, (H1.out.2.mono fun _ g => Or.inl g).trans h3⟩
theorem str_fd (h : RdI w N fb rb po c bs p r) {o : Nat} {s0 : ByteArray} {lo hi : Int} {k : Nat} (hs : FdSh (.str o s0 lo hi k)) :
    Calls Tryz.prog 132 #[.agg #[.pointer (some ⟨rb, o, none⟩), .int .i64 lo, .int .i64 hi, fv (isF k)], .pointer (some ⟨fb, 0, none⟩)] w (FldQ w N fb rb po c bs p r (.str o s0 lo hi k)) := by
  obtain ⟨ho, s2, s3, s4, s5⟩ := hs
  refine (str_read k h.rdr lo hi s2 s3 s4 s5 (h.cel (by omega)) h.hrf).mono ?_
  rintro _ z (⟨e, hn, rfl, hz⟩ | ⟨s, m, W1, hn, rfl, rfl, H1, H2, rfl⟩)
  · exact Or.inl ⟨e, rfl, e, rfl, by simp only [rdFd, hn], hz.mono (fun _ g => Or.inl g), r, h.box.off hz h.hrf⟩
  · have h1 := h.adv H1 H2
    obtain ⟨h2, h3⟩ : RdI (W1.setCell ⟨rb, o, none⟩ (.string s)) N fb rb po c bs (p + 4 + s.size) (setS r o s) ∧ Off (fun q => q = fb ∨ q = rb) W1 (W1.setCell ⟨rb, o, none⟩ (.string s)) := by
      rcases ho with rfl | rfl
      all_goals exact h1.set (by omega) rfl h1.lt h1.lc h1.la
    exact Or.inr ⟨rfl, setS r o s, p + 4 + s.size, by simp only [rdFd, hn, bare_S], h2, (H2.mono fun _ g => Or.inl g).trans h3⟩
theorem byt_fd (h : RdI w N fb rb po c bs p r) {o : Nat} {a0 : Option Addr} {n0 c0 : Nat} {l0 : List Int} {lo hi : Int} (hs : FdSh (.byt o a0 n0 c0 l0 lo hi)) :
    Calls Tryz.prog 136 #[.agg #[.pointer (some ⟨rb, o, none⟩), .int .i64 lo, .int .i64 hi, fv 74], .pointer (some ⟨fb, 0, none⟩)] w (FldQ w N fb rb po c bs p r (.byt o a0 n0 c0 l0 lo hi)) := by
  obtain ⟨ho, s2, s3, s4, s5⟩ := hs
  refine (byt_read h.rdr lo hi s2 s3 s4 s5 (h.cel (by omega)) h.hrf).mono ?_
  rintro _ z (⟨e, hn, rfl, hz⟩ | ⟨l, a, k, W1, hn, rfl, H1, HR, H2, rfl⟩)
  · exact Or.inl ⟨e, rfl, e, rfl, by simp only [rdFd, hn], hz.mono (fun _ g => Or.inl g), r, h.box.off hz h.hrf⟩
  · have h1 := h.adv H1 H2
    have hR : BRow W1 N (.slice a l.length k) l := ERow.base HR h.hN
    obtain ⟨h2, h3⟩ : RdI (W1.setCell ⟨rb, o, none⟩ (.slice a l.length k)) N fb rb po c bs (p + 4 + l.length) (setB r o a k l) ∧ Off (fun q => q = fb ∨ q = rb) W1 (W1.setCell ⟨rb, o, none⟩ (.slice a l.length k)) := by
      rcases ho with rfl | rfl | rfl
      · exact h1.set (by omega) rfl hR h1.lc h1.la
      · exact h1.set (by omega) rfl h1.lt hR h1.la
      · exact h1.set (by omega) rfl h1.lt h1.lc hR
    exact Or.inr ⟨rfl, setB r o a k l, p + 4 + l.length, by simp only [rdFd, hn, bare_B r o a k l], h2, (H2.mono fun _ g => Or.inl g).trans h3⟩
theorem cnd_fd (h : RdI w N fb rb po c bs p r) (e0 : Bool) (x0 y0 : Int) :
    Calls Tryz.prog 124 #[.agg #[.pointer (some ⟨rb, 3, none⟩)], .pointer (some ⟨fb, 0, none⟩)] w (FldQ w N fb rb po c bs p r (.cnd e0 x0 y0)) := by
  refine (cond_read h.hV h.rdr (h.cel (by omega)) (h.cel (by omega)) (h.cel (by omega)) h.hrf h.hrp h.hrg h.hfg).mono ?_
  rintro _ z (⟨e, hn, rfl, hz, hx⟩ | ⟨x, y, q, W1, W2, hn, rfl, H1, H2, rfl, HB⟩)
  · refine Or.inl ⟨e, rfl, e, rfl, by simp only [rdFd, hn], hz, ?_⟩
    rcases hx with hx | ⟨x, y, q, W1, W2, H2, rfl, HB⟩
    · exact ⟨r, h.box.off hx h.hrf⟩
    · have b0 := h.box.off H2 h.hrf
      have b1 := (b0.pPut (j := 3) (by simp) (.bool x))
      obtain ⟨s, hs⟩ : ∃ s, setC r x y q = s := ⟨_, rfl⟩
      have b2 : Box (((W1.setCell ⟨rb, 3, none⟩ (.bool x)).setCell ⟨rb, 4, none⟩ (.int .i64 y)).setCell ⟨rb, 5, none⟩ (.int .i64 q)) rb (#[.int .i64 s.kd, .string s.ct, .slice s.tp s.tn s.tc, .bool s.e, .int .i64 s.a, .int .i64 s.p, .int .i64 s.nu, .int .i64 s.tk, .int .i64 s.st, .string s.cd, .slice s.cp s.cn s.cc, .slice s.ap s.an s.ac]) := by rw [← hs]; exact ((b1.pPut (j := 4) (by simp) (.int .i64 y)).pPut (j := 5) (by simp) (.int .i64 q))
      exact ⟨s, b2.below HB⟩
  · have h1 := h.adv H1 H2
    obtain ⟨h2, o2⟩ := h1.set (o := 3) (v := .bool x) (r2 := { r with e := x }) (by omega) rfl h1.lt h1.lc h1.la
    obtain ⟨h3, o3⟩ := h2.set (o := 4) (v := .int .i64 y) (r2 := { r with e := x, a := y }) (by omega) rfl h2.lt h2.lc h2.la
    obtain ⟨h4, o4⟩ := h3.set (o := 5) (v := .int .i64 q) (r2 := setC r x y q) (by omega) rfl h3.lt h3.lc h3.la
    exact Or.inr ⟨rfl, setC r x y q, p + 3, by simp only [rdFd, hn, bare_C], h4.below HB, ((((H2.mono fun _ g => Or.inl g).trans o2).trans o3).trans o4).join (Off.of_below HB) fun _ _ g => g⟩
theorem non_fd (h : RdI w N fb rb po c bs p r) (b : Bool) :
    Calls Tryz.prog 121 #[.bool b, .pointer (some ⟨fb, 0, none⟩)] w (FldQ w N fb rb po c bs p r (.non b)) := by
  refine (none_read b _).mono ?_
  rintro _ z ⟨rfl, HB⟩
  exact Or.inr ⟨rfl, r, p, rfl, h.below HB, Off.of_below HB⟩
/-- A field passed to the reader. -/
theorem rpass_any (h : RdI w N fb rb po c bs p r) {g : Nat} (fd : Fd) (hs : FdSh fd) (hg : w.cell? ⟨g, 0, none⟩ = some (fdV rb fd)) :
    Calls Tryz.prog 95 #[.pointer (some ⟨fb, 0, none⟩), .slice (some ⟨g, 0, none⟩) 1 1] w (FldQ w N fb rb po c bs p r fd) := by
  cases fd with
  | num o v sz lo hi => exact rpass_num _ _ _ _ hg (num_fd h hs)
  | str o s lo hi k => exact rpass_str _ _ _ _ hg (str_fd h hs)
  | byt o a n c2 l lo hi => exact rpass_byt _ _ _ _ hg (byt_fd h hs)
  | cnd e x y => exact rpass_cnd _ hg (cnd_fd h e x y)
  | non b => exact rpass_non _ hg (non_fd h b)
end
end Go.Proofs.YtdjjologpodnkaaGreatDoor
