/-
  Book.shows: no list shows in another.
-/
import Derived.Test.YtjdpjielpbiedaaGreatDoorKGrow
namespace Go.Proofs.YtjdpjielpbiedaaGreatDoor.Td
open Go.RowKit

/-- Worlds that keep what lies in V. -/
def Sub (V : World) : Type := { x : World // Below V.heap.size V x }
theorem wp_region_class {P : Program} {V : World} {id : Nat} {Q : Exit → Act → World → Prop} {a : Act} {w : World} {l : List Oper} (hw : Below V.heap.size V w) (hm : P.follows .mixedOrders = true) (hB : Region.lexB .any l.toArray = true)
    (h : wpQuiet P l.toArray (fun w' => ∃ x : Sub V, w' = x.1) (fun a' => ∀ w', (∃ x : Sub V, w' = x.1) → Q .normal a' w') l a) : (Code.region id l.toArray true).wp P Q a w :=
  wp_region_quiet (C := fun w' => ∃ x : Sub V, w' = x.1) hm hB ⟨⟨_, Below.drew hw⟩, rfl⟩ (by simpa using h)
theorem sub_of {P : Program} {f : FuncId} {args : Array Value} {R : Ending} {V : World} (c : ∀ w, Calls P f args w fun r w' => r = R ∧ Below w.heap.size w w') (x : Sub V) : Calls P f args x.1 fun r x' => r = R ∧ ∃ y : Sub V, x' = y.1 :=
  (c x.1).mono fun _ x' ⟨h, hb⟩ => ⟨h, ⟨x', below_then x.2 hb⟩, rfl⟩
set_option maxRecDepth 100000 in
set_option maxHeartbeats 4000000 in
theorem shows_true {w : World} {B K : Nat} {ρ : Nat → Nat} {vb vw vl : Value} {es : List Ent} {ls : List Value} (h : Gw w B K ρ vb vw vl es ls) (hl : ls.length = es.length) (hs : ∀ (i : Nat) (e : Ent), es[i]? = some e → e.bs = mk i e.bs.length ∧ e.bs.length ≤ 1000) (hm : es.length ≤ 4) :
    Calls Tryz.prog 30 #[.pointer (some ⟨K, 0, none⟩), .slice none 0 0, .slice none 0 0, vl] w fun e w' => e = .returned (.bool true) ∧ Below w.heap.size w w' := by
  have HS : Hid (∀ (i : Nat) (e : Ent), es[i]? = some e → e.bs = mk i e.bs.length ∧ e.bs.length ≤ 1000) := hs
  obtain ⟨ab, cb, rfl, hab⟩ := VRow.isSlice h.bk.rb
  obtain ⟨al, cl, rfl, hal⟩ := VRow.isSlice h.rl
  rw [List.length_map] at h hab
  obtain ⟨n, hn⟩ : ∃ n, es.length = n := ⟨_, rfl⟩
  rw [hl] at h hal
  rw [hn] at h hm hab hal hl
  have HA : Hid ((0 < n → ∃ g, ab = some ⟨g, 0, none⟩) ∧ (0 < n → ∃ g, al = some ⟨g, 0, none⟩) ∧ es.length = n ∧ ls.length = n) := ⟨hab, hal, hn, hl⟩
  have HH : Hid (Gw w B K ρ (.slice ab n cb) vw (.slice al n cl) es ls) := h
  have en : ls.length = n := hl
  rw [en]
  clear h hs hab hal hn hl en
  go_enter Tryz.func30, Tryz.ntmps30
  go_wp2_with fail
  refine wp_loop_rounds 1 ?_
  rw [rounds_succ]
  go_wp2_with fail
  refine wp_loop_rounds 1 ?_
  rw [rounds_succ]
  go_wp2_with fail
  go_loopw [13] (fun t13 wx => ∃ i : Nat, i ≤ n ∧ t13 = .int .i64 i ∧ Hid (Below w.heap.size w wx)) (fun t13 _ => n - (intOf t13).toNat)
  case atStart => exact ⟨0, Nat.zero_le _, rfl, Below.refl _ _⟩
  case round =>
    obtain ⟨i, hi, rfl, HI⟩ := hrel
    by_cases hlt : i < n
    · have hlt1 : (i : Int) < n := by omega
      obtain ⟨g, rfl⟩ := HA.out.1 (by omega)
      obtain ⟨g2, rfl⟩ := HA.out.2.1 (by omega)
      obtain ⟨e, he⟩ : ∃ e, es[i]? = some e := ⟨_, List.getElem?_eq_getElem (by have := HA.out.2.2.1; omega)⟩
      obtain ⟨l, hl⟩ : ∃ l, ls[i]? = some l := ⟨_, List.getElem?_eq_getElem (by have := HA.out.2.2.2; omega)⟩
      have c1 : w.cell? ⟨g, i, none⟩ = some e.val := VRow.slot HH.out.bk.rb (by rw [List.getElem?_map, he]; rfl)
      have c2 : w.cell? ⟨g2, i, none⟩ = some l := VRow.slot HH.out.rl hl
      have r1 := HH.out.bk.val i e he
      obtain ⟨hmk, hlen⟩ := HS.out i e he
      have r2 := (HH.out.ll i l e hl he).1
      obtain ⟨a1, d1, e1, hb1⟩ := VRow.isSlice r1
      obtain ⟨a2, d2, e2, hb2⟩ := VRow.isSlice r2
      obtain ⟨m, hm1⟩ : ∃ m, e.bs.length = m := ⟨_, rfl⟩
      rw [mk_length, hm1] at e2
      rw [hm1] at e1 hlen hmk
      rw [e1] at c1
      rw [e2] at c2
      have HR : Hid (TRow w B (.slice a1 m d1) (mk i m) ∧ TRow w B (.slice a2 (m + 90) d2) (mk i (m + 90)) ∧ w.cell? ⟨g, i, none⟩ = some (.slice a1 m d1) ∧ w.cell? ⟨g2, i, none⟩ = some (.slice a2 (m + 90) d2) ∧ w.cell? ⟨K, 4, none⟩ = some (.slice (some ⟨g, 0, none⟩) n cb)) := ⟨by rw [← e1, ← hmk]; exact r1, by rw [← e2, ← hm1]; exact r2, c1, c2, HH.out.bk.c4⟩
      have c2' : wr.cell? ⟨g2, i, none⟩ = some (.slice a2 (m + 90) d2) := by rw [HI.out.cell (p := ⟨g2, i, none⟩) (cell_lt c2)]; exact c2
      clear r1 r2 hmk e1 e2 hb1 hb2 hm1 he hl c1 c2
      obtain ⟨M, hM⟩ : ∃ M, mkT i = .string M := ⟨_, rfl⟩
      have HM : Hid (∀ (V : World) (x : Sub V), Calls Tryz.prog 29 #[.int .i64 (i : Int)] x.1 fun r x' => r = .returned (.string M) ∧ ∃ y : Sub V, x' = y.1) := fun V x => sub_of (fun y => (mark_any i (by omega) y).mono fun _ _ q => ⟨by rw [q.1, hM], q.2⟩) x
      have HMM : Hid (mkT i = .string M) := hM
      clear hM
      go_wp2_with fail
      go_loopw [14] (fun t14 wx => ∃ k : Nat, k ≤ m + 90 ∧ t14 = .int .i64 k ∧ Hid (Below w.heap.size w wx)) (fun t14 _ => m + 90 - (intOf t14).toNat)
      case atStart => exact ⟨0, Nat.zero_le _, rfl, HI⟩
      case round =>
        obtain ⟨k, hk, rfl, HJ⟩ := hrel
        obtain ⟨h1, h2, c1, c2, c4⟩ := HR.out
        have tr : ∀ (x : Sub wr) (p : Addr) (v : Value), w.cell? p = some v → x.1.cell? p = some v := fun x p v hv => by
          rw [(below_then HJ.out x.2).cell (p := p) (cell_lt hv)]; exact hv
        have c2'' : wr.cell? ⟨g2, i, none⟩ = some (.slice a2 (m + 90) d2) := tr ⟨wr, Below.refl _ _⟩ _ _ c2
        by_cases hlt2 : k < m + 90
        · have hlt3 : (k : Int) < (m : Int) + 90 := by omega
          obtain ⟨gl, rfl, k2⟩ := VRow.at_ h2 (mk_get i (m + 90) k hlt2)
          rw [HMM.out] at k2
          have t1 := fun x : Sub wr => tr x _ _ c1
          have t2 := fun x : Sub wr => tr x _ _ c2
          have t4 := fun x : Sub wr => tr x _ _ c4
          have t5 := fun x : Sub wr => tr x _ _ k2
          have h1c := HM.out wr
          haveI hne : Nonempty (Sub wr) := ⟨⟨wr, Below.refl _ _⟩⟩
          by_cases hlt4 : k < m
          · have hlt5 : (k : Int) < m := by omega
            obtain ⟨gv, rfl, k1⟩ := VRow.at_ h1 (mk_get i m k hlt4)
            rw [HMM.out] at k1
            have t6 := fun x : Sub wr => tr x _ _ k1
            clear tr h1 h2 c1 c2 c4 k1 k2
            go_wp2_with fail
            refine wp_region_class (V := wr) (Below.refl _ _) (by kernel_rfl) (by kernel_rfl) ?_
            repeat (go_big_quiet_step ((go_at_call 29; exact h1c _)))
            refine wpQuiet_nil ?_
            rintro wc ⟨xwc, rfl⟩
            have HB : Hid (Below w.heap.size w xwc.1) := below_then HJ.out xwc.2
            clear h1c t1 t2 t4 t5 t6 hne
            go_wp2_with fail
            go_roundw
            case rel => exact ⟨k + 1, hlt2, by go_num, HB⟩
            case measure => simp [intOf]; omega
          · have hlt5 : ¬ (k : Int) < m := by omega
            clear tr h1 h2 c1 c2 c4 k2
            go_wp2_with fail
            refine wp_region_class (V := wr) (Below.refl _ _) (by kernel_rfl) (by kernel_rfl) ?_
            repeat (go_big_quiet_step ((go_at_call 29; exact h1c _)))
            refine wpQuiet_nil ?_
            rintro wc ⟨xwc, rfl⟩
            have HB : Hid (Below w.heap.size w xwc.1) := below_then HJ.out xwc.2
            clear h1c t1 t2 t4 t5 hne
            go_wp2_with fail
            go_roundw
            case rel => exact ⟨k + 1, hlt2, by go_num, HB⟩
            case measure => simp [intOf]; omega
        · have hlt3 : ¬ (k : Int) < (m : Int) + 90 := by omega
          go_wp2_with fail
          go_roundw
          case rel => exact ⟨i + 1, hlt, by go_num, HJ⟩
          case measure => simp [intOf]; omega
    · have hlt1 : ¬ (i : Int) < n := by omega
      go_wp2_with fail
      go_ret
      exact ⟨rfl, HI.out⟩
end Go.Proofs.YtjdpjielpbiedaaGreatDoor.Td
