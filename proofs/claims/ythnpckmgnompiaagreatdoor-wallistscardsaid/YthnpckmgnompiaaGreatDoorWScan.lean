/-
  The log's scanArea, scan: what Open reads.
-/
import Derived.Test.YthnpckmgnompiaaGreatDoorWParse
namespace Go.Proofs.YthnpckmgnompiaaGreatDoor
open Go.RowKit Go.BigFrame

/-- An area's bytes, and how many are safe. -/
def arX (σ : Sg) (ar : Int) : List Int := if ar = 0 then σ.x0 else σ.x1
def arS (σ : Sg) (ar : Int) : Nat := if ar = 0 then σ.s0 else σ.s1
/-- What was found in an area, as a value. -/
def FndQ (w' : World) (N : Nat) (bs : List Int) (ar : Int) (sy : Nat) (f : Array Value) : Prop :=
  (psS bs ar = none ∧ f = #[.int .u64 0, .slice none 0 0, .slice none 0 0, .int .i64 bs.length, .int .i64 sy, .int .i64 0]) ∨ ∃ g sn rs sa sc ra rn rc us, psS bs ar = some (g, sn, rs) ∧ f = #[.int .u64 (g : Nat), .slice sa sn.length sc, .slice ra rn rc, .int .i64 bs.length, .int .i64 sy, .int .i64 ((30 + sn.length + sizes rs : Nat) : Int)] ∧ Byts w' sa sn.length sn ∧ (sa = none → sc = 0) ∧ VRow w' N 22 (.slice ra rn rc) us ∧ Pcs w' us rs ∧ Far N sa ∧ PFar N us
/-- The cells of a found that was not yet written hold no byte. -/
theorem byts_past {w w' : World} {R : Nat} {po : Option Addr} {m : Nat} {bs : List Int} (hb : Byts w po m bs) (hR : ∀ q, w.cell? ⟨R, q, none⟩ = (#[Value.int .u64 0, Value.slice none 0 0, Value.slice none 0 0, Value.int .i64 0, Value.int .i64 0, Value.int .i64 0] : Array Value)[q]?) (o : Off (fun k => k = R) w w') : Byts w' po m bs :=
  byts_off hb o (fun b q hm e h => by
    obtain ⟨b', o', e', _, hc⟩ := hb.cell 0 (by have := hb.len; omega)
    rw [e] at e'
    simp only [Option.some.injEq, Addr.mk.injEq] at e'
    obtain ⟨rfl, rfl, _⟩ := e'
    subst h
    rw [hR] at hc
    match q, hc with
    | 0, hc => simp at hc
    | 1, hc => simp at hc
    | 2, hc => simp at hc
    | 3, hc => simp at hc
    | 4, hc => simp at hc
    | 5, hc => simp at hc
    | q + 6, hc => simp at hc)
theorem pcs_past {w w' : World} {R : Nat} {us : List Value} {ds : List (List Int)} (h : Pcs w us ds) (hR : ∀ q, w.cell? ⟨R, q, none⟩ = (#[Value.int .u64 0, Value.slice none 0 0, Value.slice none 0 0, Value.int .i64 0, Value.int .i64 0, Value.int .i64 0] : Array Value)[q]?) (o : Off (fun k => k = R) w w') : Pcs w' us ds :=
  ⟨h.1, fun j u d hu hd => by obtain ⟨a, c, e, hby, hn⟩ := h.2 j u d hu hd; exact ⟨a, c, e, byts_past hby hR o, hn⟩⟩
section
variable {x : World} {B K : Nat} {v0 v1 : Value} {σ : Sg} {ar : Int}
theorem len_ar (h : DskS x B K v0 v1 σ) (har : ar = 0 ∨ ar = 1) : Calls Tryz.prog 13 #[.pointer (some ⟨K, 0, none⟩), .int .i64 ar] x fun e w' => e = .returned (.tuple #[.int .i64 (arX σ ar).length, .nilIface]) ∧ w' = x := by
  rcases har with rfl | rfl
  · exact Len0_ok h (stOf_any _)
  · exact Len1_ok h (stOf_any _)
theorem synced_ar (h : DskS x B K v0 v1 σ) (har : ar = 0 ∨ ar = 1) : Calls Tryz.prog 87 #[.pointer (some ⟨K, 0, none⟩), .int .i64 ar] x fun e w' => e = .returned (.tuple #[.int .i64 (arS σ ar), .nilIface]) ∧ w' = x := by
  rcases har with rfl | rfl
  · exact Synced0_ok h (stOf_any _)
  · exact Synced1_ok h (stOf_any _)
theorem read_ar (h : DskS x B K v0 v1 σ) (hd : σ.dead = false) (har : ar = 0 ∨ ar = 1) : Calls Tryz.prog 88 #[.pointer (some ⟨K, 0, none⟩), .int .i64 ar, .int .i64 0, .int .i64 (arX σ ar).length] x fun e w' => ∃ a k c, e = .returned (.tuple #[.slice a k c, .nilIface]) ∧ Row w' x.heap.size (.slice a k c) (arX σ ar) ∧ Below x.heap.size x w' := by
  refine (dRead h ar 0 (arX σ ar).length ⟨by omega, by omega⟩).mono ?_
  rintro e w' ⟨a, k, c, ev, rfl, hr, hv, hb⟩
  have hh : ∀ n : Nat, hasB n 0 n = true := fun n => by simp [hasB]
  have e1 : rdX σ ar 0 (arX σ ar).length = arX σ ar := by
    rcases har with rfl | rfl
    · simp [rdX, rdX1, arX, hd, hh]
    · simp [rdX, rdX1, arX, hd, hh]
  have e2 : rdC σ ar 0 (arX σ ar).length = 0 := by
    rcases har with rfl | rfl
    · simp [rdC, rdC1, arX, hd, hh]
    · simp [rdC, rdC1, arX, hd, hh]
  rw [e1] at hr
  rcases hv with ⟨rfl, _⟩ | ⟨b, _, _, h0, _⟩
  · exact ⟨a, k, c, rfl, hr, hb⟩
  · rw [e2] at h0; simp at h0
set_option maxRecDepth 100000 in
set_option maxHeartbeats 4000000 in
theorem scanArea_ok (h : DskS x B K v0 v1 σ) (hd : σ.dead = false) (har : ar = 0 ∨ ar = 1) (hl : (arX σ ar).length ≤ 16777216) (hrg : Rng (arX σ ar)) (hH : Halves x) (hR : HdR) :
    Calls Tryz.prog 65 #[.pointer (some ⟨K, 0, none⟩), .int .i64 ar] x fun e w' => ∃ f, e = .returned (.tuple #[.agg f, .nilIface]) ∧ FndQ w' x.heap.size (arX σ ar) ar (arS σ ar) f ∧ Below x.heap.size x w' := by
  obtain ⟨bs, hbs⟩ : ∃ bs, arX σ ar = bs := ⟨_, rfl⟩
  obtain ⟨sy, hsy⟩ : ∃ sy, arS σ ar = sy := ⟨_, rfl⟩
  have HL : Hid (∀ y, Below x.heap.size x y → Calls Tryz.prog 13 #[.pointer (some ⟨K, 0, none⟩), .int .i64 ar] y fun e w' => e = .returned (.tuple #[.int .i64 bs.length, .nilIface]) ∧ w' = y) := fun y hy => by have := len_ar (h.under hy) har; rw [hbs] at this; exact this
  have HS : Hid (∀ y, Below x.heap.size x y → Calls Tryz.prog 87 #[.pointer (some ⟨K, 0, none⟩), .int .i64 ar] y fun e w' => e = .returned (.tuple #[.int .i64 sy, .nilIface]) ∧ w' = y) := fun y hy => by have := synced_ar (h.under hy) har; rw [hsy] at this; exact this
  have HD : Hid (∀ y, Below x.heap.size x y → Calls Tryz.prog 88 #[.pointer (some ⟨K, 0, none⟩), .int .i64 ar, .int .i64 0, .int .i64 bs.length] y fun e w' => ∃ a k c, e = .returned (.tuple #[.slice a k c, .nilIface]) ∧ Row w' y.heap.size (.slice a k c) bs ∧ Below y.heap.size y w') := fun y hy => by have := read_ar (h.under hy) hd har; rw [hbs] at this; exact this
  rw [hbs] at hl hrg ⊢
  rw [hsy]
  have HG : Hid (Rng bs ∧ Halves x ∧ HdR) := ⟨hrg, hH, hR⟩
  clear h hbs hsy hrg hH hR hd
  go_enter Tryz.func65, Tryz.ntmps65
  go_wp2_with fail
  refine (HL.out _ ((Below.refl _ _).alloc (Nat.le_refl _) _)).mono ?_
  rintro e w1 ⟨rfl, hw1⟩
  rw [hw1]
  clear hw1
  go_wp2_with fail
  refine (HS.out _ ((Below.refl _ _).alloc (Nat.le_refl _) _)).mono ?_
  rintro e w1 ⟨rfl, hw1⟩
  rw [hw1]
  clear hw1
  go_wp2_with fail
  refine (HD.out _ ((Below.refl _ _).alloc (Nat.le_refl _) _)).mono ?_
  rintro e w2 ⟨a, k, c, rfl, hrow, b2⟩
  obtain ⟨hk, hby, hno, hge⟩ := hrow.byts'
  obtain ⟨a', cp, ee, hkc, hcm, _⟩ := hrow.slice
  obtain ⟨rfl, rfl, rfl⟩ : a = a' ∧ k = bs.length ∧ c = cp := by simpa using ee
  have bx2 : Below x.heap.size x w2 := ((Below.refl _ _).alloc (Nat.le_refl _) _).trans (b2.mono (by simp))
  have HP : Hid (Calls Tryz.prog 89 #[.slice a bs.length c, .int .i64 ar] w2 (PsQ w2 x.heap.size bs ar)) := parse_any (fun b o e => Nat.le_trans (by simp) (hge b o e)) hby HG.out.1 hno hkc hcm hl (HG.out.2.1.under bx2) HG.out.2.2
  have HB : Hid (Below (x.alloc (.cells #[.int .u64 0, .slice none 0 0, .slice none 0 0, .int .i64 0, .int .i64 0, .int .i64 0] 93)).heap.size (x.alloc (.cells #[.int .u64 0, .slice none 0 0, .slice none 0 0, .int .i64 0, .int .i64 0, .int .i64 0] 93)) w2 ∧ Below x.heap.size x w2) := ⟨b2, bx2⟩
  clear hk hby hno hge hkc hcm hrow ee b2 bx2 HL HS HD
  go_wp2_with fail
  refine HP.out.mono ?_
  rintro e w3 ⟨b3, hps⟩
  obtain ⟨b2, bx2⟩ := HB.out
  have hxw2 : x.heap.size < w2.heap.size := by have := b2.size; simp at this; omega
  have r0 : w3.cell? ⟨x.heap.size, 0, none⟩ = some (.int .u64 0) := (b3.cell (p := ⟨x.heap.size, 0, none⟩) hxw2).trans ((b2.cell (p := ⟨x.heap.size, 0, none⟩) (by simp)).trans (by simp))
  have z0 : w3.frozen? ⟨x.heap.size, 0, none⟩ = false := (b3.frozen (p := ⟨x.heap.size, 0, none⟩) hxw2).trans ((b2.frozen (p := ⟨x.heap.size, 0, none⟩) (by simp)).trans (by simp))
  have r1 : w3.cell? ⟨x.heap.size, 1, none⟩ = some (.slice none 0 0) := (b3.cell (p := ⟨x.heap.size, 1, none⟩) hxw2).trans ((b2.cell (p := ⟨x.heap.size, 1, none⟩) (by simp)).trans (by simp))
  have z1 : w3.frozen? ⟨x.heap.size, 1, none⟩ = false := (b3.frozen (p := ⟨x.heap.size, 1, none⟩) hxw2).trans ((b2.frozen (p := ⟨x.heap.size, 1, none⟩) (by simp)).trans (by simp))
  have r2 : w3.cell? ⟨x.heap.size, 2, none⟩ = some (.slice none 0 0) := (b3.cell (p := ⟨x.heap.size, 2, none⟩) hxw2).trans ((b2.cell (p := ⟨x.heap.size, 2, none⟩) (by simp)).trans (by simp))
  have z2 : w3.frozen? ⟨x.heap.size, 2, none⟩ = false := (b3.frozen (p := ⟨x.heap.size, 2, none⟩) hxw2).trans ((b2.frozen (p := ⟨x.heap.size, 2, none⟩) (by simp)).trans (by simp))
  have r3 : w3.cell? ⟨x.heap.size, 3, none⟩ = some (.int .i64 0) := (b3.cell (p := ⟨x.heap.size, 3, none⟩) hxw2).trans ((b2.cell (p := ⟨x.heap.size, 3, none⟩) (by simp)).trans (by simp))
  have z3 : w3.frozen? ⟨x.heap.size, 3, none⟩ = false := (b3.frozen (p := ⟨x.heap.size, 3, none⟩) hxw2).trans ((b2.frozen (p := ⟨x.heap.size, 3, none⟩) (by simp)).trans (by simp))
  have r4 : w3.cell? ⟨x.heap.size, 4, none⟩ = some (.int .i64 0) := (b3.cell (p := ⟨x.heap.size, 4, none⟩) hxw2).trans ((b2.cell (p := ⟨x.heap.size, 4, none⟩) (by simp)).trans (by simp))
  have z4 : w3.frozen? ⟨x.heap.size, 4, none⟩ = false := (b3.frozen (p := ⟨x.heap.size, 4, none⟩) hxw2).trans ((b2.frozen (p := ⟨x.heap.size, 4, none⟩) (by simp)).trans (by simp))
  have r5 : w3.cell? ⟨x.heap.size, 5, none⟩ = some (.int .i64 0) := (b3.cell (p := ⟨x.heap.size, 5, none⟩) hxw2).trans ((b2.cell (p := ⟨x.heap.size, 5, none⟩) (by simp)).trans (by simp))
  have z5 : w3.frozen? ⟨x.heap.size, 5, none⟩ = false := (b3.frozen (p := ⟨x.heap.size, 5, none⟩) hxw2).trans ((b2.frozen (p := ⟨x.heap.size, 5, none⟩) (by simp)).trans (by simp))
  have HRR : Hid (∀ q, w3.cell? ⟨x.heap.size, q, none⟩ = (#[Value.int .u64 0, Value.slice none 0 0, Value.slice none 0 0, Value.int .i64 0, Value.int .i64 0, Value.int .i64 0] : Array Value)[q]?) := fun q => (b3.cell (p := ⟨x.heap.size, q, none⟩) hxw2).trans ((b2.cell (p := ⟨x.heap.size, q, none⟩) (by simp)).trans (World.cell?_alloc_new _ _ _ _))
  have HW : Hid (Below x.heap.size x w3) := bx2.trans (b3.mono bx2.size)
  have hx3 : x.heap.size < w3.heap.size := cell_lt r0
  have hx2 : x.heap.size ≤ w2.heap.size := bx2.size
  clear b2 b3 bx2 HB HP
  rcases hps with ⟨hpn, rfl⟩ | ⟨g, sn, rs, sa, sc, ra, rn, rc, us, hpn, rfl, hs1, hs2, hs3, hs4, hs5, hs6⟩
  · have HN : Hid (psS bs ar = none) := hpn
    clear hpn
    go_wp2_with fail
    obtain ⟨ho, y0, y1, y2, y3, y4, y5⟩ := six_set r0 r1 r2 r3 r4 r5 (.int .u64 0) (.slice none 0 0) (.slice none 0 0) (.int .i64 bs.length) (.int .i64 sy) (.int .i64 0)
    obtain ⟨Y, hY⟩ : ∃ Y, ((((((w3.setCell ⟨x.heap.size, 0, none⟩ (.int .u64 0)).setCell ⟨x.heap.size, 1, none⟩ (.slice none 0 0)).setCell ⟨x.heap.size, 2, none⟩ (.slice none 0 0)).setCell ⟨x.heap.size, 3, none⟩ (.int .i64 bs.length)).setCell ⟨x.heap.size, 4, none⟩ (.int .i64 sy)).setCell ⟨x.heap.size, 5, none⟩ (.int .i64 0)) = Y := ⟨_, rfl⟩
    rw [hY] at ho y0 y1 y2 y3 y4 y5 ⊢
    clear hY
    have hYl : x.heap.size < Y.heap.size := Nat.lt_of_lt_of_le hx3 ho.size
    have u0 : (Y.alloc (.cells #[.int .u64 0, .slice none 0 0, .slice none 0 0, .int .i64 bs.length, .int .i64 sy, .int .i64 0] 93)).cell? ⟨x.heap.size, 0, none⟩ = some (.int .u64 0) := (World.cell?_alloc_lt _ _ ⟨x.heap.size, 0, none⟩ hYl).trans y0
    have u1 : (Y.alloc (.cells #[.int .u64 0, .slice none 0 0, .slice none 0 0, .int .i64 bs.length, .int .i64 sy, .int .i64 0] 93)).cell? ⟨x.heap.size, 1, none⟩ = some (.slice none 0 0) := (World.cell?_alloc_lt _ _ ⟨x.heap.size, 1, none⟩ hYl).trans y1
    have u2 : (Y.alloc (.cells #[.int .u64 0, .slice none 0 0, .slice none 0 0, .int .i64 bs.length, .int .i64 sy, .int .i64 0] 93)).cell? ⟨x.heap.size, 2, none⟩ = some (.slice none 0 0) := (World.cell?_alloc_lt _ _ ⟨x.heap.size, 2, none⟩ hYl).trans y2
    have u3 : (Y.alloc (.cells #[.int .u64 0, .slice none 0 0, .slice none 0 0, .int .i64 bs.length, .int .i64 sy, .int .i64 0] 93)).cell? ⟨x.heap.size, 3, none⟩ = some (.int .i64 bs.length) := (World.cell?_alloc_lt _ _ ⟨x.heap.size, 3, none⟩ hYl).trans y3
    have u4 : (Y.alloc (.cells #[.int .u64 0, .slice none 0 0, .slice none 0 0, .int .i64 bs.length, .int .i64 sy, .int .i64 0] 93)).cell? ⟨x.heap.size, 4, none⟩ = some (.int .i64 sy) := (World.cell?_alloc_lt _ _ ⟨x.heap.size, 4, none⟩ hYl).trans y4
    have u5 : (Y.alloc (.cells #[.int .u64 0, .slice none 0 0, .slice none 0 0, .int .i64 bs.length, .int .i64 sy, .int .i64 0] 93)).cell? ⟨x.heap.size, 5, none⟩ = some (.int .i64 0) := (World.cell?_alloc_lt _ _ ⟨x.heap.size, 5, none⟩ hYl).trans y5
    have hb : Below x.heap.size x (Y.alloc (.cells #[.int .u64 0, .slice none 0 0, .slice none 0 0, .int .i64 bs.length, .int .i64 sy, .int .i64 0] 93)) := (HW.out.trans (ho.below HW.out.size (fun k g => by omega))).alloc (by omega) _
    refine bodyPost_ret (v := .tuple #[.agg #[.int .u64 0, .slice none 0 0, .slice none 0 0, .int .i64 bs.length, .int .i64 sy, .int .i64 0], .nilIface]) (by simp [results, Tryz.results65, go_sem, u0, u1, u2, u3, u4, u5]) rfl ⟨_, rfl, ?_, hb⟩
    exact Or.inl ⟨HN.out, rfl⟩
  · have HN : Hid (psS bs ar = some (g, sn, rs) ∧ Byts w3 sa sn.length sn ∧ (sa = none → sc = 0) ∧ VRow w3 w2.heap.size 22 (.slice ra rn rc) us ∧ Pcs w3 us rs ∧ Far x.heap.size sa ∧ PFar x.heap.size us) := ⟨hpn, hs1, hs2, hs3, hs4, hs5, hs6⟩
    clear hpn hs1 hs2 hs3 hs4 hs5 hs6
    obtain ⟨wh, hwh⟩ : ∃ wh : Int, ((30 + sn.length + sizes rs : Nat) : Int) = wh := ⟨_, rfl⟩
    have HWH : Hid (((30 + sn.length + sizes rs : Nat) : Int) = wh) := hwh
    rw [hwh]
    clear hwh
    go_wp2_with fail
    obtain ⟨ho, y0, y1, y2, y3, y4, y5⟩ := six_set r0 r1 r2 r3 r4 r5 (.int .u64 g) (.slice sa sn.length sc) (.slice ra rn rc) (.int .i64 bs.length) (.int .i64 sy) (.int .i64 wh)
    obtain ⟨Y, hY⟩ : ∃ Y, ((((((w3.setCell ⟨x.heap.size, 0, none⟩ (.int .u64 g)).setCell ⟨x.heap.size, 1, none⟩ (.slice sa sn.length sc)).setCell ⟨x.heap.size, 2, none⟩ (.slice ra rn rc)).setCell ⟨x.heap.size, 3, none⟩ (.int .i64 bs.length)).setCell ⟨x.heap.size, 4, none⟩ (.int .i64 sy)).setCell ⟨x.heap.size, 5, none⟩ (.int .i64 wh)) = Y := ⟨_, rfl⟩
    rw [hY] at ho y0 y1 y2 y3 y4 y5 ⊢
    clear hY
    have hYl : x.heap.size < Y.heap.size := Nat.lt_of_lt_of_le hx3 ho.size
    have u0 : (Y.alloc (.cells #[.int .u64 g, .slice sa sn.length sc, .slice ra rn rc, .int .i64 bs.length, .int .i64 sy, .int .i64 wh] 93)).cell? ⟨x.heap.size, 0, none⟩ = some (.int .u64 g) := (World.cell?_alloc_lt _ _ ⟨x.heap.size, 0, none⟩ hYl).trans y0
    have u1 : (Y.alloc (.cells #[.int .u64 g, .slice sa sn.length sc, .slice ra rn rc, .int .i64 bs.length, .int .i64 sy, .int .i64 wh] 93)).cell? ⟨x.heap.size, 1, none⟩ = some (.slice sa sn.length sc) := (World.cell?_alloc_lt _ _ ⟨x.heap.size, 1, none⟩ hYl).trans y1
    have u2 : (Y.alloc (.cells #[.int .u64 g, .slice sa sn.length sc, .slice ra rn rc, .int .i64 bs.length, .int .i64 sy, .int .i64 wh] 93)).cell? ⟨x.heap.size, 2, none⟩ = some (.slice ra rn rc) := (World.cell?_alloc_lt _ _ ⟨x.heap.size, 2, none⟩ hYl).trans y2
    have u3 : (Y.alloc (.cells #[.int .u64 g, .slice sa sn.length sc, .slice ra rn rc, .int .i64 bs.length, .int .i64 sy, .int .i64 wh] 93)).cell? ⟨x.heap.size, 3, none⟩ = some (.int .i64 bs.length) := (World.cell?_alloc_lt _ _ ⟨x.heap.size, 3, none⟩ hYl).trans y3
    have u4 : (Y.alloc (.cells #[.int .u64 g, .slice sa sn.length sc, .slice ra rn rc, .int .i64 bs.length, .int .i64 sy, .int .i64 wh] 93)).cell? ⟨x.heap.size, 4, none⟩ = some (.int .i64 sy) := (World.cell?_alloc_lt _ _ ⟨x.heap.size, 4, none⟩ hYl).trans y4
    have u5 : (Y.alloc (.cells #[.int .u64 g, .slice sa sn.length sc, .slice ra rn rc, .int .i64 bs.length, .int .i64 sy, .int .i64 wh] 93)).cell? ⟨x.heap.size, 5, none⟩ = some (.int .i64 wh) := (World.cell?_alloc_lt _ _ ⟨x.heap.size, 5, none⟩ hYl).trans y5
    have hb : Below x.heap.size x (Y.alloc (.cells #[.int .u64 g, .slice sa sn.length sc, .slice ra rn rc, .int .i64 bs.length, .int .i64 sy, .int .i64 wh] 93)) := (HW.out.trans (ho.below HW.out.size (fun k g => by omega))).alloc (by omega) _
    refine bodyPost_ret (v := .tuple #[.agg #[.int .u64 g, .slice sa sn.length sc, .slice ra rn rc, .int .i64 bs.length, .int .i64 sy, .int .i64 wh], .nilIface]) (by simp [results, Tryz.results65, go_sem, u0, u1, u2, u3, u4, u5]) rfl ⟨_, rfl, ?_, hb⟩
    have oA : Off (fun k => k = x.heap.size) w3 (Y.alloc (.cells #[.int .u64 g, .slice sa sn.length sc, .slice ra rn rc, .int .i64 bs.length, .int .i64 sy, .int .i64 wh] 93)) := ho.alloc _
    obtain ⟨n1, n2, n3, n4, n5, n6, n7⟩ := HN.out
    exact Or.inr ⟨g, sn, rs, sa, sc, ra, rn, rc, us, n1, by rw [HWH.out], byts_past n2 HRR.out oA, n3, (n4.off oA (fun q hq e => by have := (n4.lt hq).1; omega)).low hx2, pcs_past n5 HRR.out oA, n6, n7⟩
end
end Go.Proofs.YthnpckmgnompiaaGreatDoor
