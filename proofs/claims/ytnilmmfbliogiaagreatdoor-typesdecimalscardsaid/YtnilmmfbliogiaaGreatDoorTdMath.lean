/-
  Two numbers ordered by their places, and by their digits brought to one scale: the same. Of no program.
-/
import Derived.Test.YtnilmmfbliogiaaGreatDoorTdSpec
import GoSem.Op.String
namespace Go.Proofs.YtnilmmfbliogiaaGreatDoor

/-- The places of a number: sixteen ahead of the point, sixteen behind it. -/
def plL (neg : Bool) (ds : List UInt8) (sc : Nat) : List Int := List.replicate (16 + sc - ds.length) 0 ++ ds.map (fun b => (if neg then -1 else 1) * ((b.toNat : Int) - 48)) ++ List.replicate (16 - sc) 0
/-- Two lists of one length, by the first place in which they differ. -/
def cmpI : List Int → List Int → Int
  | [], [] => 0
  | [], _ :: _ => -1
  | _ :: _, [] => 1
  | x :: xs, y :: ys => if x < y then -1 else if y < x then 1 else cmpI xs ys
def dgt (b : UInt8) : Int := (b.toNat : Int) - 48
theorem cmpI_prefix (c a b : List Int) : cmpI (c ++ a) (c ++ b) = cmpI a b := by
  induction c with
  | nil => rfl
  | cons x c ih => rw [List.cons_append, List.cons_append, cmpI, if_neg (by omega), if_neg (by omega), ih]
theorem cmpI_self (a : List Int) : cmpI a a = 0 := by
  have := cmpI_prefix a [] []
  simpa [cmpI] using this
theorem cmpI_suffix (z : List Int) : ∀ (a b : List Int), a.length = b.length → cmpI (a ++ z) (b ++ z) = cmpI a b
  | [], [], _ => by rw [List.nil_append]; rw [cmpI_self]; rfl
  | [], _ :: _, h => by simp at h
  | _ :: _, [], h => by simp at h
  | x :: a, y :: b, h => by
    rw [List.cons_append, List.cons_append, cmpI, cmpI, cmpI_suffix z a b (by simpa using h)]
theorem cmpI_neg : ∀ (a b : List Int), a.length = b.length → cmpI (a.map (fun x => -x)) (b.map (fun x => -x)) = - cmpI a b
  | [], [], _ => rfl
  | [], _ :: _, h => by simp at h
  | _ :: _, [], h => by simp at h
  | x :: a, y :: b, h => by
    rw [List.map_cons, List.map_cons, cmpI, cmpI, cmpI_neg a b (by simpa using h)]
    by_cases h1 : x < y
    · rw [if_neg (by omega), if_pos (by omega), if_pos h1]; rfl
    · by_cases h2 : y < x
      · rw [if_pos (by omega), if_neg h1, if_pos h2]
      · rw [if_neg (by omega), if_neg (by omega), if_neg h1, if_neg h2]
/-- By bytes. -/
def ordB (x y : List UInt8) : Int := if Op.bytesLess x y then -1 else if Op.bytesLess y x then 1 else 0
theorem cmpI_bytes : ∀ (x y : List UInt8), x.length = y.length → cmpI (x.map dgt) (y.map dgt) = ordB x y
  | [], [], _ => rfl
  | [], _ :: _, h => by simp at h
  | _ :: _, [], h => by simp at h
  | a :: x, b :: y, h => by
    have ih := cmpI_bytes x y (by simpa using h)
    rw [List.map_cons, List.map_cons, cmpI, ih]
    unfold ordB
    have e1 : (a < b) ↔ a.toNat < b.toNat := UInt8.lt_iff_toNat_lt
    have e2 : (b < a) ↔ b.toNat < a.toNat := UInt8.lt_iff_toNat_lt
    rw [Op.bytesLess, Op.bytesLess]
    by_cases h1 : a.toNat < b.toNat
    · rw [if_pos (by unfold dgt; omega)]
      simp [e1.2 h1]
    · by_cases h2 : b.toNat < a.toNat
      · rw [if_neg (by unfold dgt; omega), if_pos (by unfold dgt; omega)]
        have n1 : ¬ a < b := fun g => h1 (e1.1 g)
        have n2 : (a == b) = false := by
          simp only [beq_eq_false_iff_ne]; intro e; rw [e] at h2; omega
        simp [n1, n2, e2.2 h2]
      · rw [if_neg (by unfold dgt; omega), if_neg (by unfold dgt; omega)]
        have e : a = b := UInt8.toNat_inj.1 (by omega)
        subst e
        simp
/-- The digits brought to one scale, and to one length. -/
def padR (da : List UInt8) (sa sb : Nat) : List UInt8 := da ++ List.replicate (sb - sa) 48
def padX (da : List UInt8) (sa : Nat) (db : List UInt8) (sb : Nat) : List UInt8 := List.replicate ((padR db sb sa).length - (padR da sa sb).length) 48 ++ padR da sa sb
theorem padX_len (da : List UInt8) (sa : Nat) (db : List UInt8) (sb : Nat) : (padX da sa db sb).length = (padX db sb da sa).length := by
  unfold padX; rw [List.length_append, List.length_append, List.length_replicate, List.length_replicate]; omega
theorem map_zero (n : Nat) : (List.replicate n (48 : UInt8)).map dgt = List.replicate n 0 := by rw [List.map_replicate]; rfl
theorem pl_window (da : List UInt8) (sa : Nat) (db : List UInt8) (sb : Nat) (ha : da.length ≤ 16) (hb : db.length ≤ 16) (h1 : sa ≤ 16) (h2 : sb ≤ 16) :
    plL false da sa = List.replicate (16 + max sa sb - (padX da sa db sb).length) 0 ++ (padX da sa db sb).map dgt ++ List.replicate (16 - max sa sb) 0 := by
  have hl : (padX da sa db sb).length = max (da.length + (sb - sa)) (db.length + (sa - sb)) := by
    unfold padX padR; simp only [List.length_append, List.length_replicate]; omega
  rw [hl]
  unfold padX padR plL
  simp only [List.map_append, map_zero, List.length_append, List.length_replicate, Bool.false_eq_true, if_false, Int.one_mul]
  rw [show da.map (fun b => (b.toNat : Int) - 48) = da.map dgt from rfl]
  rw [show 16 + sa - da.length = (16 + max sa sb - max (da.length + (sb - sa)) (db.length + (sa - sb))) + (db.length + (sa - sb) - (da.length + (sb - sa))) by omega, ← List.replicate_append_replicate]
  rw [show 16 - sa = (sb - sa) + (16 - max sa sb) by omega, ← List.replicate_append_replicate]
  simp only [List.append_assoc]
theorem pl_neg (da : List UInt8) (sa : Nat) : plL true da sa = (plL false da sa).map (fun x => -x) := by
  unfold plL
  simp only [List.map_append, List.map_replicate, List.map_map, Bool.false_eq_true, if_false, if_true]
  rw [show (-(0 : Int)) = 0 from rfl]
  congr 2
  apply List.map_congr_left
  intro x _
  simp
theorem pl_len (neg : Bool) (da : List UInt8) (sa : Nat) (ha : da.length ≤ 16) (h1 : sa ≤ 16) : (plL neg da sa).length = 32 := by
  unfold plL; simp only [List.length_append, List.length_replicate, List.length_map]; omega
theorem cmp_plain (da : List UInt8) (sa : Nat) (db : List UInt8) (sb : Nat) (ha : da.length ≤ 16) (hb : db.length ≤ 16) (h1 : sa ≤ 16) (h2 : sb ≤ 16) :
    cmpI (plL false da sa) (plL false db sb) = ordB (padX da sa db sb) (padX db sb da sa) := by
  rw [pl_window da sa db sb ha hb h1 h2, pl_window db sb da sa hb ha h2 h1, padX_len db sb da sa, Nat.max_comm sb sa, List.append_assoc, List.append_assoc, cmpI_prefix, cmpI_suffix _ _ _ (by rw [List.length_map, List.length_map, padX_len]), cmpI_bytes _ _ (padX_len _ _ _ _)]
/-- Of a list without a place below 0 and one without a place above it, unlike: the first is greater. -/
theorem cmpI_sign : ∀ (a b : List Int), a.length = b.length → (∀ x ∈ a, 0 ≤ x) → (∀ x ∈ b, x ≤ 0) → a ≠ b → cmpI a b = 1 ∧ cmpI b a = -1
  | [], [], _, _, _, h => absurd rfl h
  | [], _ :: _, h, _, _, _ => by simp at h
  | _ :: _, [], h, _, _, _ => by simp at h
  | x :: a, y :: b, h, ha, hb, hne => by
    have h1 := ha x (by simp)
    have h2 := hb y (by simp)
    by_cases he : x = y
    · have ih := cmpI_sign a b (by simpa using h) (fun z hz => ha z (by simp [hz])) (fun z hz => hb z (by simp [hz])) (fun e => hne (by rw [he, e]))
      subst he
      refine ⟨?_, ?_⟩
      · rw [cmpI, if_neg (by omega), if_neg (by omega)]; exact ih.1
      · rw [cmpI, if_neg (by omega), if_neg (by omega)]; exact ih.2
    · rw [cmpI, cmpI]
      exact ⟨by rw [if_neg (by omega), if_pos (by omega)], by rw [if_pos (by omega)]⟩
theorem pl_pos {da : List UInt8} {sa : Nat} (hd : dgs da = true) : ∀ x ∈ plL false da sa, 0 ≤ x := by
  intro x hx
  unfold plL at hx
  simp only [List.mem_append, List.mem_replicate, List.mem_map, Bool.false_eq_true, if_false, Int.one_mul] at hx
  rcases hx with (⟨_, rfl⟩ | ⟨b, hb, rfl⟩) | ⟨_, rfl⟩
  · exact Int.le_refl _
  · have := dgs_all hd b hb
    unfold dg at this
    simp at this
    omega
  · exact Int.le_refl _
theorem pl_some {d : UInt8} {r : List UInt8} {sa : Nat} (h : d ≠ 48) (hd : dgs (d :: r) = true) : ∃ x ∈ plL false (d :: r) sa, 0 < x := by
  refine ⟨(d.toNat : Int) - 48, ?_, ?_⟩
  · unfold plL
    simp only [List.mem_append, List.mem_map, Bool.false_eq_true, if_false, Int.one_mul]
    exact Or.inl (Or.inr ⟨d, by simp, rfl⟩)
  · have := dgs_all hd d (by simp)
    unfold dg at this
    simp at this
    have hne : d.toNat ≠ 48 := fun e => h (UInt8.toNat_inj.1 e)
    omega
/-- How two right numbers are ordered. -/
def ordN (na : Bool) (da : List UInt8) (sa : Nat) (nb : Bool) (db : List UInt8) (sb : Nat) : Int :=
  if na != nb then (if na then -1 else 1) else (if na then -1 else 1) * ordB (padX da sa db sb) (padX db sb da sa)
theorem cmp_same {na nb : Bool} {da db : List UInt8} {sa sb : Nat} (ha : da.length ≤ 16) (hb : db.length ≤ 16) (h1 : sa ≤ 16) (h2 : sb ≤ 16) (ga : dgs da = true) (gb : dgs db = true)
    (za : na = true → ∃ x r, da = x :: r ∧ x ≠ 48) (zb : nb = true → ∃ x r, db = x :: r ∧ x ≠ 48) : cmpI (plL na da sa) (plL nb db sb) = ordN na da sa nb db sb := by
  have hl : ∀ n d s n' d' s', d.length ≤ 16 → s ≤ 16 → d'.length ≤ 16 → s' ≤ 16 → (plL n d s).length = (plL n' d' s').length := fun n d s n' d' s' a b c e => by rw [pl_len n d s a b, pl_len n' d' s' c e]
  unfold ordN
  cases na <;> cases nb
  · rw [cmp_plain da sa db sb ha hb h1 h2]; simp
  · obtain ⟨x, r, rfl, hx⟩ := zb rfl
    obtain ⟨v, hv, hv0⟩ := pl_some (sa := sb) hx gb
    rw [pl_neg]
    have := (cmpI_sign (plL false da sa) ((plL false (x :: r) sb).map (fun x => -x)) (by rw [List.length_map]; exact hl _ _ _ _ _ _ ha h1 hb h2) (pl_pos ga) (fun y hy => by
      obtain ⟨z, hz, rfl⟩ := List.mem_map.1 hy; have := pl_pos gb z hz; omega) (fun e => by
      have hm : -v ∈ (plL false (x :: r) sb).map (fun x => -x) := List.mem_map.2 ⟨v, hv, rfl⟩
      rw [← e] at hm; have := pl_pos ga _ hm; omega)).1
    rw [this]; rfl
  · obtain ⟨x, r, rfl, hx⟩ := za rfl
    obtain ⟨v, hv, hv0⟩ := pl_some (sa := sa) hx ga
    rw [pl_neg]
    have := (cmpI_sign (plL false db sb) ((plL false (x :: r) sa).map (fun x => -x)) (by rw [List.length_map]; exact hl _ _ _ _ _ _ hb h2 ha h1) (pl_pos gb) (fun y hy => by
      obtain ⟨z, hz, rfl⟩ := List.mem_map.1 hy; have := pl_pos ga z hz; omega) (fun e => by
      have hm : -v ∈ (plL false (x :: r) sa).map (fun x => -x) := List.mem_map.2 ⟨v, hv, rfl⟩
      rw [← e] at hm; have := pl_pos gb _ hm; omega)).2
    rw [this]; rfl
  · rw [pl_neg, pl_neg, cmpI_neg _ _ (hl _ _ _ _ _ _ ha h1 hb h2), cmp_plain da sa db sb ha hb h1 h2]
    simp
end Go.Proofs.YtnilmmfbliogiaaGreatDoor
