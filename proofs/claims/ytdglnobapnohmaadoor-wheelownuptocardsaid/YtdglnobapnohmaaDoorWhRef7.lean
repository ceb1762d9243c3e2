/-
  The document's wheel: Set of a new key.
-/
import Derived.Test.YtdglnobapnohmaaDoorWhRef6
import Derived.Deep.RegionHeld3
namespace Go.Proofs.YtdglnobapnohmaaDoor
open Go.RowKit

/-- In the midst of Set: what was put behind the other so far. -/
def SetP (x : Tm) (Q : List Tm) (i : Nat) (put : Bool) (ys : List Tm) : Prop := (put = false ∧ ys = Q.take i ∧ ∀ y ∈ Q.take i, ¬ tlt x y) ∨ (put = true ∧ ys = ins x (Q.take i) ∧ ∃ y ∈ Q.take i, tlt x y)
theorem SetP.len {x : Tm} {Q : List Tm} {i : Nat} {put : Bool} {ys : List Tm} (h : SetP x Q i put ys) : ys.length ≤ Q.length + 1 := by
  rcases h with ⟨_, rfl, _⟩ | ⟨_, rfl, _⟩
  · rw [List.length_take]; omega
  · rw [(ins_perm x _).length_eq, List.length_cons, List.length_take]; omega
theorem take_one {Q : List Tm} {i : Nat} {z : Tm} (hz : Q[i]? = some z) : Q.take (i + 1) = Q.take i ++ [z] := by rw [List.take_add_one, hz]; rfl
theorem SetP.both {x z : Tm} {Q : List Tm} {i : Nat} {ys : List Tm} (h : SetP x Q i false ys) (hz : Q[i]? = some z) (ha : tlt x z) : SetP x Q (i + 1) true (ys ++ [x] ++ [z]) := by
  rcases h with ⟨_, rfl, h⟩ | ⟨h, _⟩
  · refine Or.inr ⟨rfl, ?_, z, ?_, ha⟩
    · rw [take_one hz, ins_here h ha]
    · rw [take_one hz]; simp
  · cases h
theorem SetP.one {x z : Tm} {Q : List Tm} {i : Nat} {put : Bool} {ys : List Tm} (h : SetP x Q i put ys) (hz : Q[i]? = some z) (ha : put = true ∨ ¬ tlt x z) : SetP x Q (i + 1) put (ys ++ [z]) := by
  rcases h with ⟨rfl, rfl, h⟩ | ⟨rfl, rfl, h⟩
  · refine Or.inl ⟨rfl, (take_one hz).symm, fun y hy => ?_⟩
    rw [take_one hz] at hy
    rcases List.mem_append.1 hy with hy | hy
    · exact h y hy
    · obtain rfl := List.mem_singleton.1 hy
      rcases ha with ha | ha
      · cases ha
      · exact ha
  · refine Or.inr ⟨rfl, ?_, ?_⟩
    · rw [take_one hz, ins_snoc h]
    · obtain ⟨y, hy, hxy⟩ := h
      exact ⟨y, by rw [take_one hz]; exact List.mem_append_left _ hy, hxy⟩
theorem SetP.fin {x : Tm} {Q : List Tm} {i : Nat} {put : Bool} {ys : List Tm} (h : SetP x Q i put ys) (hi : Q.length ≤ i) : (put = true → ys = ins x Q) ∧ (put = false → ys ++ [x] = ins x Q) := by
  rw [SetP, List.take_of_length_le hi] at h
  rcases h with ⟨rfl, rfl, h⟩ | ⟨rfl, rfl, _⟩
  · exact ⟨(fun g => by cases g), fun _ => (ins_last h).symm⟩
  · exact ⟨fun _ => rfl, (fun g => by cases g)⟩
set_option maxRecDepth 100000 in
set_option maxHeartbeats 4000000 in
theorem rset_new {w : World} {rb now : Nat} {S : List Tm} {a : Option Addr} {n c : Nat} (h : RWl w rb now S a n c) (k : Int) (t : Nat) (h1 : now < t) (h2 : t ≤ 1099511627776) (hl : S.length < 4096) (hq : plI k S = -1) :
    Calls Tryd.prog 37 #[.pointer (some ⟨rb, 0, none⟩), .agg #[.int .i64 k, .string ⟨#[]⟩], .int .i64 (t : Int)] w fun e w' => e = .returned (.int .i64 0) ∧ RWQ w rb now (setS k t S) w' := by
  have HQE : Hid (setS k t S = ins (k, t) S) := by unfold Hid setS; rw [filter_key hq]
  have bv := (Below.refl w.heap.size w).alloc (Nat.le_refl _) (.cells #[.int .i64 k, .string ⟨#[]⟩] 98)
  have cr := (h.below bv).cell
  have hp := rplace_any (h.below bv) k (by omega)
  rw [hq] at hp
  have ck := (Box.new w #[.int .i64 k, .string ⟨#[]⟩] 98).cell
  have HB : Hid (Below w.heap.size w (w.alloc (.cells #[.int .i64 k, .string ⟨#[]⟩] 98))) := bv
  have hn := h.row.len
  have hn4 : ¬ (n : Int) ≥ 4096 := by omega
  have HR : Hid (RWl w rb now S a n c ∧ S.length < 4096 ∧ n = S.length) := ⟨h, hl, hn⟩
  obtain ⟨N, hN⟩ : ∃ N : Int, (now : Int) = N := ⟨_, rfl⟩
  obtain ⟨T, hT⟩ : ∃ N : Int, (t : Int) = N := ⟨_, rfl⟩
  have HTT : Hid ((t : Int) = T) := hT
  rw [hN] at cr
  have q1 : ¬ T ≤ N := by omega
  have q2 : ¬ T > 1099511627776 := by omega
  rw [hT]
  clear h bv hl hn hq hT h1 h2
  go_enter Tryd.func37, Tryd.ntmps37
  go_wp2_with fail
  refine hp.mono ?_
  rintro _ w1 ⟨rfl, hb⟩
  have HB1 : Hid (Below w.heap.size w w1) := below_then HB.out hb
  have cr1 := (HR.out.1.below HB1.out).cell
  have ck1 := ((Box.new w #[.int .i64 k, .string ⟨#[]⟩] 98).below hb).cell
  have HQ : Hid (RRow w1 (rb + 1) (.slice a n c) S ∧ S.length ≤ 5000) := ⟨(HR.out.1.below HB1.out).row, by have := HR.out.2.1; omega⟩
  clear hp hb cr ck
  go_wp2_with fail
  clear cr1 ck1 q1 q2 hn4
  have HV : Hid (Below w.heap.size w (w1.alloc (.cells #[.int .i64 k, .string ⟨#[]⟩, .int .i64 T] 100)) ∧ w1.heap.size < (w1.alloc (.cells #[.int .i64 k, .string ⟨#[]⟩, .int .i64 T] 100)).heap.size ∧ RRow (w1.alloc (.cells #[.int .i64 k, .string ⟨#[]⟩, .int .i64 T] 100)) (rb + 1) (.slice a n c) S ∧ n = S.length ∧ S.length ≤ 5000 ∧ (∀ j, (w1.alloc (.cells #[.int .i64 k, .string ⟨#[]⟩, .int .i64 T] 100)).cell? ⟨w1.heap.size, j, none⟩ = (#[.int .i64 k, .string ⟨#[]⟩, .int .i64 T] : Array Value)[j]?)) := ⟨HB1.out.alloc HB1.out.size _, by simp, ERow.below HQ.out.1 ((Below.refl _ _).alloc (Nat.le_refl _) _), ERow.len HQ.out.1, HQ.out.2, (Box.new w1 #[.int .i64 k, .string ⟨#[]⟩, .int .i64 T] 100).cell⟩
  have hml : (n : Int) ≤ 5000 := by have h1 := HV.out.2.2.2.1; have h2 := HV.out.2.2.2.2.1; omega
  generalize hVV : (w1.alloc (.cells #[.int .i64 k, .string ⟨#[]⟩, .int .i64 T] 100)) = V at HV ⊢
  obtain ⟨tb, htb⟩ : ∃ n, w1.heap.size = n := ⟨_, rfl⟩
  rw [htb] at HV ⊢
  clear hVV htb
  go_loopw [10, 11, 12] (fun t10 t11 t12 wx => ∃ (i : Nat) (put : Bool) (a1 : Option Addr) (n1 c1 : Nat) (ys : List Tm), i ≤ n ∧ t12 = .int .i64 (i : Int) ∧ t11 = .bool put ∧ t10 = .slice a1 n1 c1 ∧ Hid (RRow wx V.heap.size (.slice a1 n1 c1) ys ∧ Below V.heap.size V wx ∧ SetP (k, t) S i put ys)) (fun _ _ t12 _ => n - (intOf t12).toNat)
  case atStart => exact ⟨0, false, none, 0, 0, [], Nat.zero_le _, rfl, rfl, rfl, ERow.nil _ _ _ _ _, Below.refl _ _, Or.inl ⟨rfl, rfl, fun y hy => by cases hy⟩⟩
  case round =>
    obtain ⟨i, put, a1, n1, c1, ys, hi, rfl, rfl, rfl, HJ⟩ := hrel
    by_cases hlt : i < n
    · have hlt1 : (i : Int) < n := by omega
      obtain ⟨⟨k', t'⟩, hx⟩ : ∃ x, S[i]? = some x := ⟨_, List.getElem?_eq_getElem (by have := HV.out.2.2.2.1; omega)⟩
      obtain ⟨g, rfl, hg, hcg⟩ := HV.out.2.2.1.at_ encR_len hx
      obtain ⟨T', hT'⟩ : ∃ N : Int, (t' : Int) = N := ⟨_, rfl⟩
      have HC : Hid (∀ z, Below V.heap.size V z → z.cell? ⟨tb, 0, none⟩ = some (.int .i64 k) ∧ z.cell? ⟨tb, 1, none⟩ = some (.string ⟨#[]⟩) ∧ z.cell? ⟨tb, 2, none⟩ = some (.int .i64 T) ∧ z.cell? ⟨g, i * 3, none⟩ = some (.int .i64 k') ∧ z.cell? ⟨g, i * 3 + 1, none⟩ = some (.string ⟨#[]⟩) ∧ z.cell? ⟨g, i * 3 + 2, none⟩ = some (.int .i64 T')) := fun z hz => by
        have hg0 := hcg 0 (by omega)
        have hg1 := hcg 1 (by omega)
        have hg2 : V.cell? ⟨g, i * 3 + 2, none⟩ = some (.int .i64 (t' : Int)) := hcg 2 (by omega)
        rw [hT'] at hg2
        exact ⟨(hz.cell (p := ⟨tb, 0, none⟩) HV.out.2.1).trans (HV.out.2.2.2.2.2 0), (hz.cell (p := ⟨tb, 1, none⟩) HV.out.2.1).trans (HV.out.2.2.2.2.2 1), (hz.cell (p := ⟨tb, 2, none⟩) HV.out.2.1).trans (HV.out.2.2.2.2.2 2), (hz.cell (p := ⟨g, i * 3, none⟩) hg).trans hg0, (hz.cell (p := ⟨g, i * 3 + 1, none⟩) hg).trans hg1, (hz.cell (p := ⟨g, i * 3 + 2, none⟩) hg).trans hg2⟩
      obtain ⟨b, hbb⟩ : ∃ b, ahB (k, t) (k', t') = b := ⟨_, rfl⟩
      have HAh : Hid (∀ z, Below wr.heap.size wr z → Calls Tryd.prog 59 #[.agg #[.int .i64 k, .string ⟨#[]⟩, .int .i64 T], .agg #[.int .i64 k', .string ⟨#[]⟩, .int .i64 T']] z fun e w' => e = .returned (.bool b) ∧ Hid (Below wr.heap.size wr w') ∧ w'.cell? ⟨tb, 0, none⟩ = some (.int .i64 k) ∧ w'.cell? ⟨tb, 1, none⟩ = some (.string ⟨#[]⟩) ∧ w'.cell? ⟨tb, 2, none⟩ = some (.int .i64 T) ∧ w'.cell? ⟨g, i * 3, none⟩ = some (.int .i64 k') ∧ w'.cell? ⟨g, i * 3 + 1, none⟩ = some (.string ⟨#[]⟩) ∧ w'.cell? ⟨g, i * 3 + 2, none⟩ = some (.int .i64 T')) := fun z hz => by
        have h5 := rahead_any k k' t t' z
        rw [HTT.out, hT', hbb] at h5
        exact h5.mono fun e w' ⟨he, hb⟩ => ⟨he, below_then hz hb, HC.out w' (HJ.out.2.1.trans ((below_then hz hb).mono HJ.out.2.1.size))⟩
      have HBB : Hid ((b = true ↔ tlt (k, t) (k', t')) ∧ S[i]? = some (k', t') ∧ (t' : Int) = T') := ⟨by rw [← hbb]; exact ahB_iff _ _, hx, hT'⟩
      obtain ⟨u0, u1, u2, u3, u4, u5⟩ := HC.out wr HJ.out.2.1
      clear hcg hx hg hT' hbb
      go_wp2_with fail
      go_region_held3 (fun z => z.cell? ⟨tb, 0, none⟩ = some (.int .i64 k) ∧ z.cell? ⟨tb, 1, none⟩ = some (.string ⟨#[]⟩) ∧ z.cell? ⟨tb, 2, none⟩ = some (.int .i64 T) ∧ z.cell? ⟨g, i * 3, none⟩ = some (.int .i64 k') ∧ z.cell? ⟨g, i * 3 + 1, none⟩ = some (.string ⟨#[]⟩) ∧ z.cell? ⟨g, i * 3 + 2, none⟩ = some (.int .i64 T')) (simp [*]) (first | (go_at_call 59; refine (HAh.out _ ?_).mono ?_; (first | (with_reducible exact Below.refl _ _) | exact Below.drew (Below.refl _ _) | exact below_drewN (Below.refl _ _) _); clear HAh; rintro _ w5 ⟨rfl, H5, s0, s1, s2, s3, s4, s5⟩))
      clear u0 u1 u2 u3 u4 u5
      have HJ5 : Hid (RRow w5 V.heap.size (.slice a1 n1 c1) ys ∧ Below V.heap.size V w5 ∧ SetP (k, t) S i put ys) := ⟨ERow.below HJ.out.1 H5.out, HJ.out.2.1.trans (H5.out.mono HJ.out.2.1.size), HJ.out.2.2⟩
      clear H5 HJ
      have one : ∀ (W : World) (a2 : Option Addr) (n2 c2 : Nat) (zs : List Tm), RRow W V.heap.size (.slice a2 n2 c2) zs → Below V.heap.size V W → zs.length ≤ 6000 → ∃ a3 c3 W1, (Builtin.append_ #[28, 28] 28 #[.slice a2 n2 c2, .slice (some ⟨W.heap.size, 0, none⟩) 1 1]).run Tryd.prog (W.alloc (.cells #[.int .i64 k', .string ⟨#[]⟩, .int .i64 T'] 100)) = .ok (.slice a3 (n2 + 1) c3) W1 ∧ Hid (RRow W1 V.heap.size (.slice a3 (n2 + 1) c3) (zs ++ [(k', t')]) ∧ Below V.heap.size V W1) := fun W a2 n2 c2 zs hr hb hz => by
        obtain ⟨a3, c3, W1, hap, HN⟩ := rpush k' t' hr hb.size (by omega)
        rw [HBB.out.2.2] at hap
        exact ⟨a3, c3, W1, hap, HN.out.1, hb.trans HN.out.2⟩
      have HONE : Hid (type_of% one) := one
      clear one
      have hys : ys.length ≤ 5001 := by have h1 := HJ5.out.2.2.len; have h2 := HV.out.2.2.2.2.1; omega
      by_cases hc : put = false ∧ b = true
      · obtain ⟨rfl, rfl⟩ := hc
        obtain ⟨a3, c3, W1, hap, HN⟩ := rpush k t HJ5.out.1 HJ5.out.2.1.size (by omega)
        rw [HTT.out] at hap
        have bW1 : Below V.heap.size V W1 := HJ5.out.2.1.trans HN.out.2
        obtain ⟨a4, c4, W2, hap2, HN2⟩ := HONE.out W1 a3 (n1 + 1) c3 _ HN.out.1 bW1 (by rw [List.length_append]; simp; omega)
        have HF : Hid (RRow W2 V.heap.size (.slice a4 (n1 + 1 + 1) c4) (ys ++ [(k, t)] ++ [(k', t')]) ∧ Below V.heap.size V W2 ∧ SetP (k, t) S (i + 1) true (ys ++ [(k, t)] ++ [(k', t')])) := ⟨HN2.out.1, HN2.out.2, HJ5.out.2.2.both HBB.out.2.1 (HBB.out.1.1 rfl)⟩
        obtain ⟨_, _, _, v3, v4, v5⟩ := HC.out W1 bW1
        clear HN HN2 HONE HJ5 bW1 hys
        go_wp2_with (at_builtin; first | (refine wpList_append_run rfl (.tmp 71) (.tmp 73) 28 _ rfl hap ?_; clear hap) | (refine wpList_append_run rfl (.tmp 75) (.tmp 80) 28 _ rfl hap2 ?_))
        go_roundw
        case rel => exact ⟨i + 1, true, a4, n1 + 1 + 1, c4, _, hlt, by go_num, rfl, rfl, HF.out⟩
        case measure => simp [intOf]; omega
      · have hc1 : put = true ∨ ¬ tlt (k, t) (k', t') := by
          cases put with
          | true => exact Or.inl rfl
          | false =>
            cases b with
            | true => exact absurd ⟨rfl, rfl⟩ hc
            | false => exact Or.inr fun g => by have := HBB.out.1.2 g; cases this
        obtain ⟨a4, c4, W2, hap2, HN2⟩ := HONE.out w5 a1 n1 c1 _ HJ5.out.1 HJ5.out.2.1 (by omega)
        have HF : Hid (RRow W2 V.heap.size (.slice a4 (n1 + 1) c4) (ys ++ [(k', t')]) ∧ Below V.heap.size V W2 ∧ SetP (k, t) S (i + 1) put (ys ++ [(k', t')])) := ⟨HN2.out.1, HN2.out.2, HJ5.out.2.2.one HBB.out.2.1 hc1⟩
        clear HN2 HONE HJ5 hc1 hys
        cases put with
        | true =>
          clear hc
          go_wp2_with (at_builtin; refine wpList_append_run rfl (.tmp 75) (.tmp 80) 28 _ rfl hap2 ?_)
          go_roundw
          case rel => exact ⟨i + 1, true, a4, n1 + 1, c4, _, hlt, by go_num, rfl, rfl, HF.out⟩
          case measure => simp [intOf]; omega
        | false =>
          cases b with
          | true => exact absurd ⟨rfl, rfl⟩ hc
          | false =>
            clear hc
            go_wp2_with (at_builtin; refine wpList_append_run rfl (.tmp 75) (.tmp 80) 28 _ rfl hap2 ?_)
            go_roundw
            case rel => exact ⟨i + 1, false, a4, n1 + 1, c4, _, hlt, by go_num, rfl, rfl, HF.out⟩
            case measure => simp [intOf]; omega
    · have hlt1 : ¬ (i : Int) < n := by omega
      have hfin := HJ.out.2.2.fin (by have := HV.out.2.2.2.1; omega)
      have HE : Hid (∀ (W : World) (a2 : Option Addr) (n2 c2 : Nat), RRow W V.heap.size (.slice a2 n2 c2) (ins (k, t) S) → Below V.heap.size V W → RWQ w rb now (ins (k, t) S) (W.setCell ⟨rb, 2, none⟩ (.slice a2 n2 c2))) := fun W a2 n2 c2 hr hb => by
        have bw : Below w.heap.size w W := HV.out.1.trans (hb.mono HV.out.1.size)
        have hbx := ((HR.out.1.below bw).box).pPut (j := 2) (by simp) (.slice a2 n2 c2)
        have o1 : Off (fun g => g = rb) W (W.setCell ⟨rb, 2, none⟩ (.slice a2 n2 c2)) := Off.setCell (P := fun g => g = rb) (p := ⟨rb, 2, none⟩) (Off.refl _ _) rfl _
        have hrb : rb < w.heap.size := HR.out.1.lt
        have hvs := HV.out.1.size
        exact ⟨a2, n2, c2, ⟨hbx.cell, hbx.free, hbx.lt, ERow.base (ERow.off hr o1 fun g hg e => by have := (ERow.lt hr hg).1; omega) (by omega), typ_set (HR.out.1.below bw).typ⟩, (Off.of_below bw).join o1 fun _ _ g => g⟩
      have HCR : Hid (∀ W, Below V.heap.size V W → Box W rb #[.bool true, .int .i64 (now : Int), .slice a n c] ∧ W.cell? ⟨tb, 0, none⟩ = some (.int .i64 k) ∧ W.cell? ⟨tb, 1, none⟩ = some (.string ⟨#[]⟩) ∧ W.cell? ⟨tb, 2, none⟩ = some (.int .i64 T)) := fun W hz => ⟨(HR.out.1.below (HV.out.1.trans (hz.mono HV.out.1.size))).box, (hz.cell (p := ⟨tb, 0, none⟩) HV.out.2.1).trans (HV.out.2.2.2.2.2 0), (hz.cell (p := ⟨tb, 1, none⟩) HV.out.2.1).trans (HV.out.2.2.2.2.2 1), (hz.cell (p := ⟨tb, 2, none⟩) HV.out.2.1).trans (HV.out.2.2.2.2.2 2)⟩
      cases put with
      | true =>
        have hye := hfin.1 rfl
        have hr := HJ.out.1
        rw [hye] at hr
        have HF := HE.out wr a1 n1 c1 hr HJ.out.2.1
        have HFF : Hid (type_of% HF) := HF
        obtain ⟨bx, _, _, _⟩ := HCR.out wr HJ.out.2.1
        have cb := bx.cell
        have fb := bx.free
        clear hfin hye hr HF bx HJ HE HCR
        go_wp2_with fail
        go_ret
        exact ⟨rfl, by rw [HQE.out]; exact HFF.out⟩
      | false =>
        have hye := hfin.2 rfl
        obtain ⟨a3, c3, W1, hap, HN⟩ := rpush k t HJ.out.1 HJ.out.2.1.size (by have h1 := HJ.out.2.2.len; have h2 := HV.out.2.2.2.2.1; omega)
        rw [HTT.out] at hap
        have hr := HN.out.1
        rw [hye] at hr
        have bW : Below V.heap.size V W1 := HJ.out.2.1.trans HN.out.2
        have HF := HE.out W1 a3 (n1 + 1) c3 hr bW
        have HFF : Hid (type_of% HF) := HF
        obtain ⟨_, e0, e1, e2⟩ := HCR.out wr HJ.out.2.1
        obtain ⟨bx, _, _, _⟩ := HCR.out W1 bW
        have cb := bx.cell
        have fb := bx.free
        clear hfin hye hr HF bx HJ HE HCR HN bW
        go_wp2_with (at_builtin; refine wpList_append_run rfl (.tmp 84) (.tmp 86) 28 _ rfl hap ?_)
        go_ret
        exact ⟨rfl, by rw [HQE.out]; exact HFF.out⟩
end Go.Proofs.YtdglnobapnohmaaDoor
