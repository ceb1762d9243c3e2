/-
  LinkWhole's state: the link, and the list of what is left to arrive.
-/
import Derived.Test.YtpcickhellkiaaaDoorLxAnc
namespace Go.Proofs.YtpcickhellkiaaaDoor
open Go.RowKit

/-- A piece that came in: of 1 to 4096 bytes. -/
structure RsOk (W : World) (p : Pc) : Prop where
  byts : Byts W p.a p.n p.bs
  at_ : ∃ b o, p.a = some ⟨b, o, none⟩
  n1 : 1 ≤ p.n
  n2 : p.n ≤ 4096
  c1 : p.n ≤ p.c
  c2 : p.c ≤ maxLen
/-- The link's side k holds hs, the other one nothing; v: the list of what is left. -/
structure WhS (W : World) (lb k : Nat) (hs : Sd) (v : Value) (ls : List Pc) (X : World) : Prop where
  ps : ∃ c : Sd × Sd, PS W (some ⟨lb, 0, none⟩) (some c) X ∧ csd c k = hs ∧ csd c (1 - k) = ([], -1)
  row : PcRow X (lb + 1) v ls
  pcs : ∀ p ∈ ls, RsOk W p
/-- Where the piece at i stands when so many of its bytes have arrived. -/
def gotS (L : List (List Int)) (i got : Nat) : Sd := if got = (L.getD i []).length then (L.eraseIdx i, -1) else (L.set i ((L.getD i []).drop got), if got = 0 then -1 else (i : Int))
theorem got0 {L : List (List Int)} {i : Nat} (h1 : 1 ≤ (L.getD i []).length) : gotS L i 0 = (L, -1) := by
  unfold gotS
  rw [if_neg (by omega), if_pos rfl, List.drop_zero]
  congr 1
  apply List.ext_getElem?
  intro j
  rw [List.getElem?_set]
  split
  · rename_i e
    subst e
    split
    · rename_i hl
      rw [List.getD_eq_getElem?_getD, List.getElem?_eq_getElem hl]
      rfl
    · rename_i hl
      rw [List.getElem?_eq_none (by omega)]
  · rfl
theorem car_got {L : List (List Int)} {i got n : Nat} (hi : i < L.length) (hg : got < (L.getD i []).length) (h1 : 1 ≤ n) (hn : got + n ≤ (L.getD i []).length) : carE (gotS L i got) i n = 0 ∧ carR (gotS L i got) i n = ((L.getD i []).drop got).take n ∧ carC (gotS L i got) i n = gotS L i (got + n) := by
  obtain ⟨p, hp⟩ : ∃ p, L.getD i [] = p := ⟨_, rfl⟩
  rw [hp] at hg hn ⊢
  have e0 : gotS L i got = (L.set i (p.drop got), if got = 0 then -1 else (i : Int)) := by unfold gotS; rw [hp, if_neg (by omega)]
  have ea : isAt (gotS L i got) (i : Int) = true := by rw [e0]; exact isAt_iff.2 (by simp; omega)
  have ep : pcAt (gotS L i got) (i : Int) = p.drop got := by
    rw [e0]
    unfold pcAt
    simp only [Int.toNat_natCast]
    rw [List.getD_eq_getElem?_getD, List.getElem?_set_self (by omega)]
    rfl
  have e2 : (gotS L i got).2 = -1 ∨ (gotS L i got).2 = (i : Int) := by
    rw [e0]
    show (if got = 0 then (-1 : Int) else i) = -1 ∨ (if got = 0 then (-1 : Int) else i) = (i : Int)
    split
    · exact Or.inl rfl
    · exact Or.inr rfl
  have hl : (p.drop got).length = p.length - got := List.length_drop
  have hE : carE (gotS L i got) i n = 0 := by
    unfold carE
    rw [if_pos ⟨ea, by omega, by rw [ep, hl]; omega, by omega⟩]
  refine ⟨hE, ?_, ?_⟩
  · unfold carR
    rw [if_pos hE]
    split
    · rename_i hw
      unfold carW at hw
      rw [ep, hl] at hw
      simp at hw
      rw [ep, List.take_of_length_le (by rw [hl]; omega)]
    · rw [ep, Int.toNat_natCast]
  · unfold carC
    rw [if_pos hE]
    split
    · rename_i hw
      unfold carW at hw
      rw [ep, hl] at hw
      simp at hw
      have eg : got + n = p.length := by omega
      unfold goneC
      rw [Int.toNat_natCast, show gotS L i (got + n) = (L.eraseIdx i, -1) by unfold gotS; rw [hp, if_pos eg]]
      congr 1
      · rw [e0]
        show (L.set i (p.drop got)).eraseIdx i = _
        rw [List.eraseIdx_set_eq]
      · unfold goneH
        split
        · rfl
        · split <;> omega
    · rename_i hw
      unfold carW at hw
      rw [ep, hl] at hw
      simp at hw
      rw [ep, Int.toNat_natCast, Int.toNat_natCast, show gotS L i (got + n) = (L.set i (p.drop (got + n)), if got + n = 0 then -1 else (i : Int)) by unfold gotS; rw [hp, if_neg (by omega)], if_neg (by omega), List.drop_drop, e0]
      congr 1
      show (L.set i (p.drop got)).set i _ = _
      rw [List.set_set]
section
variable {W z y : World} {lb k : Nat} {hs : Sd} {v : Value} {ls : List Pc}
theorem WhS.below (h : WhS W lb k hs v ls z) (hb : Below z.heap.size z y) : WhS W lb k hs v ls y := by
  obtain ⟨⟨c, h1, h2, h3⟩, h4, h5⟩ := h
  exact ⟨⟨c, h1.below hb, h2, h3⟩, ERow.below h4 hb, h5⟩
theorem WhS.b (h : WhS W lb k hs v ls z) : Below W.heap.size W z := by
  obtain ⟨⟨c, h1, h2, h3⟩, h4, h5⟩ := h
  exact h1.b
theorem WhS.row_off {P : Nat → Prop} (h : PcRow z (lb + 1) v ls) (o : Off P z y) (hP : ∀ q, P q → q = lb) : PcRow y (lb + 1) v ls := ERow.off h o fun g hg e => by
  have := (ERow.lt h hg).1
  have := hP g e
  omega
theorem lbq {lb q : Nat} (e : (some ⟨lb, 0, none⟩ : Option Addr) = some ⟨q, 0, none⟩) : q = lb := by injection e with e; injection e with e; exact e.symm
theorem cs_at {c : Sd × Sd} (hk : k < 2) (g : Sd → Sd) : ∃ c' : Sd × Sd, cS g (some c) (k : Int) = some c' ∧ csd c' k = g (csd c k) ∧ csd c' (1 - k) = csd c (1 - k) := by
  rcases (by omega : k = 0 ∨ k = 1) with rfl | rfl
  · exact ⟨(g c.1, c.2), rfl, rfl, rfl⟩
  · exact ⟨(c.1, g c.2), rfl, rfl, rfl⟩
theorem wSend (h : WhS W lb k hs v ls z) (hk : k < 2) (hl : hs.1.length < 256) {po : Option Addr} {m c : Nat} {bs : List Int} (hb : Byts W po m bs) (h1 : 1 ≤ m) (h2 : m ≤ 4096) : Calls Tryd.prog 11 #[.pointer (some ⟨lb, 0, none⟩), .int .i64 (k : Int), .slice po m c] z fun e w' => e = .returned .nilIface ∧ Hid (WhS W lb k (hs.1 ++ [bs], hs.2) v ls w') := by
  obtain ⟨⟨cc, q1, q2, q3⟩, q4, q5⟩ := h
  have hm := hb.len
  refine (kSend q1 (hb.below q1.b) (k : Int)).mono fun e w' ⟨u, e1, e2⟩ => ?_
  have e3 := e2.out.1
  rw [cV_at hk, q2] at e3
  have e4 : sendE hs bs = 0 := by unfold sendE putE; rw [if_neg (by omega), if_neg (by omega)]
  have e5 : sendC hs bs = (hs.1 ++ [bs], hs.2) := by unfold sendC putC; rw [if_neg (by omega), if_neg (by omega)]
  rw [e4] at e3
  refine ⟨by rw [e1, ev0 e3], ?_, WhS.row_off q4 e2.out.2.2 fun q e => lbq e, q5⟩
  obtain ⟨c', k1, k2, k3⟩ := cs_at (c := cc) hk (fun c => sendC c bs)
  refine ⟨c', ?_, by rw [k2, q2]; exact e5, by rw [k3]; exact q3⟩
  rw [← k1]
  exact e2.out.2.1
theorem wCarry (h : WhS W lb k hs v ls z) (hk : k < 2) (i n : Int) (hc : carE hs i n = 0) : Calls Tryd.prog 12 #[.pointer (some ⟨lb, 0, none⟩), .int .i64 (k : Int), .int .i64 i, .int .i64 n] z fun e w' => ∃ a m c, e = .returned (.tuple #[.slice a m c, .nilIface]) ∧ Hid (WhS W lb k (carC hs i n) v ls w' ∧ Byts w' a m (carR hs i n)) := by
  obtain ⟨⟨cc, q1, q2, q3⟩, q4, q5⟩ := h
  refine (kCarry q1 (k : Int) i n).mono fun e w' ⟨a, m, c, u, e1, e2⟩ => ?_
  have e3 := e2.out.2.2.1
  rw [cV_at hk, q2, hc] at e3
  have e4 := e2.out.1
  rw [cV_at hk, q2] at e4
  refine ⟨a, m, c, by rw [e1, ev0 e3], ⟨?_, WhS.row_off q4 e2.out.2.2.2.2 fun q e => lbq e, q5⟩, BRow.byts e4⟩
  obtain ⟨c', k1, k2, k3⟩ := cs_at (c := cc) hk (fun c => carC c i n)
  refine ⟨c', ?_, by rw [k2, q2], by rw [k3]; exact q3⟩
  rw [← k1]
  exact e2.out.2.2.2.1
theorem wHalf (h : WhS W lb k hs v ls z) (hk : k < 2) : Calls Tryd.prog 14 #[.pointer (some ⟨lb, 0, none⟩), .int .i64 (k : Int)] z fun e w' => e = .returned (.int .i64 hs.2) ∧ Hid (WhS W lb k hs v ls w') := by
  have h0 := h
  obtain ⟨⟨cc, q1, q2, q3⟩, q4, q5⟩ := h
  refine (kHalf q1 (k : Int)).mono fun e w' ⟨e1, e2⟩ => ⟨?_, h0.below e2.out⟩
  rw [e1, cV_at hk, q2]
theorem wLen (h : WhS W lb k hs v ls z) (hk : k < 2) : Calls Tryd.prog 17 #[.pointer (some ⟨lb, 0, none⟩), .int .i64 (k : Int)] z fun e w' => e = .returned (.int .i64 (hs.1.length : Int)) ∧ Hid (WhS W lb k hs v ls w') := by
  have h0 := h
  obtain ⟨⟨cc, q1, q2, q3⟩, q4, q5⟩ := h
  refine (kLen q1 (k : Int)).mono fun e w' ⟨e1, e2⟩ => ⟨?_, h0.below e2.out⟩
  rw [e1, cV_at hk, q2]
theorem wLen2 (h : WhS W lb k hs v ls z) (hk : k < 2) : Calls Tryd.prog 17 #[.pointer (some ⟨lb, 0, none⟩), .int .i64 (1 - (k : Int))] z fun e w' => e = .returned (.int .i64 0) ∧ Hid (WhS W lb k hs v ls w') := by
  have h0 := h
  obtain ⟨⟨cc, q1, q2, q3⟩, q4, q5⟩ := h
  have e0 : (1 - (k : Int)) = ((1 - k : Nat) : Int) := by omega
  rw [e0]
  refine (kLen q1 ((1 - k : Nat) : Int)).mono fun e w' ⟨e1, e2⟩ => ⟨?_, h0.below e2.out⟩
  rw [e1, cV_at (by omega), q3]
  rfl
theorem wFlight (h : WhS W lb k hs v ls z) (hk : k < 2) (hl : hs.1.length ≤ 256) : Calls Tryd.prog 16 #[.pointer (some ⟨lb, 0, none⟩), .int .i64 (k : Int)] z fun e w' => ∃ a c, e = .returned (.slice a hs.1.length c) ∧ Hid (WhS W lb k hs v ls w' ∧ Pcs w' a hs.1.length hs.1) := by
  have h0 := h
  obtain ⟨⟨cc, q1, q2, q3⟩, q4, q5⟩ := h
  refine (kFlight q1 (k : Int) (n := hs.1.length) (by rw [cV_at hk, q2]) hl).mono fun e w' ⟨a, c, e1, e2⟩ => ⟨a, c, e1, h0.below e2.out.2.2, ?_⟩
  have := e2.out.1
  rw [cV_at hk, q2] at this
  exact this
/-- What is left, as the law's like sees it. -/
theorem WhS.told {a : Option Addr} {n c : Nat} (h : WhS W lb k hs (.slice a n c) ls z) (hn : n ≤ 256) : Pcs z a n (ls.map (·.bs)) := by
  have hb := h.b
  have hl := ERow.len h.row
  refine ⟨by rw [List.length_map]; omega, hn, fun j hj => ?_⟩
  obtain ⟨p, hp⟩ : ∃ p, ls[j]? = some p := ⟨_, List.getElem?_eq_getElem (by omega)⟩
  obtain ⟨g, eg, hg, hc⟩ := ERow.at_ encPc_len h.row hp
  have d1 := hc 0 (by decide)
  simp only [encPc, List.getElem?_cons_zero, Nat.mul_one, Nat.add_zero] at d1
  have hok := h.pcs p (List.mem_of_getElem? hp)
  refine ⟨g, p.a, p.n, p.c, eg, hg, d1, ?_, by have := hok.n2; omega⟩
  rw [List.getD_eq_getElem?_getD, List.getElem?_map, hp]
  exact hok.byts.below hb
/-- The piece at a place of what is left. -/
theorem WhS.at_ {a : Option Addr} {n c : Nat} (h : WhS W lb k hs (.slice a n c) ls z) {i : Nat} (hi : i < n) : ∃ g p b o, ls[i]? = some p ∧ a = some ⟨g, 0, none⟩ ∧ z.cell? ⟨g, i, none⟩ = some (.slice (some ⟨b, o, none⟩) p.n p.c) ∧ p.a = some ⟨b, o, none⟩ ∧ RsOk W p := by
  have hl := ERow.len h.row
  obtain ⟨p, hp⟩ : ∃ p, ls[i]? = some p := ⟨_, List.getElem?_eq_getElem (by omega)⟩
  obtain ⟨g, eg, hg, hc⟩ := ERow.at_ encPc_len h.row hp
  have d1 := hc 0 (by decide)
  simp only [encPc, List.getElem?_cons_zero, Nat.mul_one, Nat.add_zero] at d1
  have hok := h.pcs p (List.mem_of_getElem? hp)
  obtain ⟨b, o, eb⟩ := hok.at_
  rw [eb] at d1
  exact ⟨g, p, b, o, hp, eg, d1, eb, hok⟩
end
/-- A list of byte strings that came in. -/
def Lsts (W : World) (ao : Option Addr) (n : Nat) : Prop := (∀ i, i < n → ∃ b o q m c bs, ao = some ⟨b, o, none⟩ ∧ b < W.heap.size ∧ W.cell? ⟨b, o + i, none⟩ = some (.slice q m c) ∧ Byts W q m bs ∧ m ≤ c ∧ c ≤ maxLen) ∧ n ≤ 140737488355328
/-- A list of numbers that came in. -/
def Nums (W : World) (ao : Option Addr) (n : Nat) : Prop := (∀ i, i < n → ∃ b o x, ao = some ⟨b, o, none⟩ ∧ b < W.heap.size ∧ W.cell? ⟨b, o + i, none⟩ = some (.int .i64 x)) ∧ n ≤ 140737488355328
end Go.Proofs.YtpcickhellkiaaaDoor
