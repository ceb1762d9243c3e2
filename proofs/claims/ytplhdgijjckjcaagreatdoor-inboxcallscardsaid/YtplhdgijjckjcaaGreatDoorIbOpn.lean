/-
  Open.
-/
import Derived.Test.YtplhdgijjckjcaaGreatDoorIbBx
namespace Go.Proofs.YtplhdgijjckjcaaGreatDoor
open Go.RowKit

/-- The control ids of the open ones. -/
def opS (es : List Ent) : List ByteArray := (es.filter opB).map (·.ct)
theorem opS_snoc (es : List Ent) (e : Ent) : opS (es ++ [e]) = opS es ++ (if dcB e = true then [] else [e.ct]) := by
  unfold opS
  rw [List.filter_append, List.map_append]
  congr 1
  by_cases h : e.cd.toList.isEmpty = true <;> simp [opB, dcB, h]
section
variable {w w' : World} {B b sb M : Nat} {v : Value} {K R : Int} {es : List Ent}
def OpQ (w : World) (es : List Ent) (r : Ending) (w' : World) : Prop := ∃ u, r = .returned u ∧ TRow w' w.heap.size u (opS es) ∧ Below w.heap.size w w'
set_option maxRecDepth 100000 in
set_option maxHeartbeats 4000000 in
theorem open_any (h : Bx w B b sb M v K R es) : Calls Tryz.prog 37 #[.pointer (some ⟨b, 0, none⟩)] w (OpQ w es) := by
  have hmk := made_yes h
  have c0 := hcell h.blk 0
  have k2 := h.sh.cells.2.2.1
  obtain ⟨a, c, hv, _⟩ := h.sh.row.isSlice
  obtain ⟨n, hn⟩ : ∃ n, es.length = n := ⟨_, rfl⟩
  have hrow := h.sh.row
  rw [hv, hn] at hrow k2
  have HR : Hid (NRow w B (.slice a n c) es) := hrow
  have HN : Hid (es.length = n) := hn
  have hn6 : n ≤ 1000000 := by rw [← hn]; exact h.sh.len
  clear h hv hrow hn
  go_enter Tryz.func37, Tryz.ntmps37
  go_wp2_with (go_at_call 51; refine hmk.mono ?_; rintro _ w9 ⟨rfl, h9⟩; subst w9)
  clear hmk c0 k2
  go_loopw [3, 17] (fun t3 t17 wx => ∃ i : Nat, i ≤ n ∧ t17 = .int .i64 i ∧ Hid (TRow wx w.heap.size t3 (opS (es.take i)) ∧ Below w.heap.size w wx)) (fun _ t17 _ => n - (intOf t17).toNat)
  case atStart => exact ⟨0, Nat.zero_le _, rfl, by simpa [opS] using ERow.nil _ _ _ _ _, Below.refl _ _⟩
  case round =>
    obtain ⟨i, hi, rfl, HI⟩ := hrel
    by_cases hlt : i < n
    · have hlt1 : (i : Int) < n := by omega
      obtain ⟨m, hm⟩ : ∃ m, es[i]? = some m := ⟨_, List.getElem?_eq_getElem (by rw [HN.out]; exact hlt)⟩
      obtain ⟨g, rfl, hg, hc⟩ := nrow_cells (HR.out.below HI.out.2) hm
      obtain ⟨d0, d1, d2, d3, d4, d5, d6⟩ := hc
      have HT : Hid (opS (es.take (i + 1)) = opS (es.take i) ++ (if dcB m = true then [] else [m.ct])) := by
        unfold Hid
        rw [← opS_snoc, List.take_succ_eq_append_getElem (by rw [HN.out]; exact hlt)]
        congr 3
        have hx := hm
        rw [List.getElem?_eq_getElem (by rw [HN.out]; exact hlt)] at hx
        exact Option.some.inj hx
      have hol : (opS (es.take i)).length ≤ 1000000 := by
        unfold opS
        rw [List.length_map]
        exact Nat.le_trans (List.length_filter_le _ _) (by rw [List.length_take]; omega)
      have hdc := fun o => isDecided_any m (wr.alloc o)
      have bv : Below wr.heap.size wr (wr.alloc (.cells #[.string m.ct, .slice m.tp m.tn m.tc, .int .i64 m.nu, .int .i64 m.tk, .slice m.cp m.cn m.cc, .string m.cd, .slice m.ap m.an m.ac] 29)) := (Below.refl _ _).alloc (Nat.le_refl _) _
      have bx := Box.new wr #[.string m.ct, .slice m.tp m.tn m.tc, .int .i64 m.nu, .int .i64 m.tk, .slice m.cp m.cn m.cc, .string m.cd, .slice m.ap m.an m.ac] 29
      clear hm hg
      cases hd : dcB m with
      | true =>
        rw [hd] at hdc
        have HT2 : Hid (opS (es.take (i + 1)) = opS (es.take i)) := by unfold Hid; rw [HT.out, hd]; simp
        clear hd bx HT
        go_wp2_with fail
        refine (hdc _).mono ?_
        rintro _ w2 ⟨rfl, hb2⟩
        have HI2 : Hid (TRow w2 w.heap.size u3 (opS (es.take (i + 1))) ∧ Below w.heap.size w w2) := by
          refine ⟨?_, below_then (below_then HI.out.2 bv) hb2⟩
          rw [HT2.out]
          exact (HI.out.1.below bv).below hb2
        clear hdc hb2 bv d0 d1 d2 d3 d4 d5 d6
        go_wp2_with fail
        go_roundw
        case rel => exact ⟨i + 1, hlt, by go_num, HI2⟩
        case measure => simp [intOf]; omega
      | false =>
        rw [hd] at hdc
        have HT2 : Hid (opS (es.take (i + 1)) = opS (es.take i) ++ [m.ct]) := by unfold Hid; rw [HT.out, hd]; simp
        clear hd HT
        obtain ⟨V, hV⟩ : ∃ V, wr.alloc (.cells #[.string m.ct, .slice m.tp m.tn m.tc, .int .i64 m.nu, .int .i64 m.tk, .slice m.cp m.cn m.cc, .string m.cd, .slice m.ap m.an m.ac] 29) = V := ⟨_, rfl⟩
        have hdc' := hdc (.cells #[.string m.ct, .slice m.tp m.tn m.tc, .int .i64 m.nu, .int .i64 m.tk, .slice m.cp m.cn m.cc, .string m.cd, .slice m.ap m.an m.ac] 29)
        rw [hV] at bv bx hdc'
        obtain ⟨xb, hxb⟩ : ∃ xb, wr.heap.size = xb := ⟨_, rfl⟩
        have HX : Hid (Box V xb #[.string m.ct, .slice m.tp m.tn m.tc, .int .i64 m.nu, .int .i64 m.tk, .slice m.cp m.cn m.cc, .string m.cd, .slice m.ap m.an m.ac]) := by unfold Hid; rw [← hxb]; exact bx
        have cx0 := HX.out.cell
        have HI1 : Hid (TRow V w.heap.size u3 (opS (es.take i)) ∧ Below w.heap.size w V) := ⟨HI.out.1.below bv, below_then HI.out.2 bv⟩
        clear hdc bv bx HI
        go_wp2_with fail
        clear hV hxb
        refine hdc'.mono ?_
        rintro _ w2 ⟨rfl, hb2⟩
        have cx := (HX.out.below hb2).cell
        have ht2 := HI1.out.1.below hb2
        have HB2 : Hid (Below w.heap.size w w2) := below_then HI1.out.2 hb2
        obtain ⟨a3, c3, e3, _⟩ := ht2.isSlice
        obtain ⟨a2, c2, W2, hap, r2, o2, b2⟩ := run_epush (P := Tryz.prog) (t := 55) Tryz.underlying55 celSt encS_len encS_one (w := w2) ht2 m.ct #[.string m.ct] rfl (by omega) (by decide) HB2.out.size
        have HI2 : Hid (TRow W2 w.heap.size (.slice a2 ((opS (es.take i)).length + 1) c2) (opS (es.take (i + 1))) ∧ Below w.heap.size w W2) := by
          refine ⟨by rw [HT2.out]; exact r2, HB2.out.trans (o2.below HB2.out.size fun q hq => (ht2.lt hq).1)⟩
        rw [e3] at hap ⊢
        clear hdc' hb2 ht2 e3 r2 o2 b2 HX HI1 cx0 d0 d1 d2 d3 d4 d5 d6
        go_wp2_with (at_builtin; refine wpList_append_run rfl (.tmp 24) (.tmp 27) 55 _ rfl hap ?_)
        go_roundw
        case rel => exact ⟨i + 1, hlt, by go_num, HI2⟩
        case measure => simp [intOf]; omega
    · have hlt1 : ¬ (i : Int) < n := by omega
      have HZ : Hid (TRow wr w.heap.size u3 (opS es) ∧ Below w.heap.size w wr) := by
        have := HI.out
        rw [List.take_of_length_le (by rw [HN.out]; omega)] at this
        exact this
      clear HI
      go_wp2_with fail
      go_ret
      exact ⟨u3, rfl, HZ.out.1, HZ.out.2⟩
end
end Go.Proofs.YtplhdgijjckjcaaGreatDoor
