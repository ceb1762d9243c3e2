import Derived.Test.YtjbkfppibnlmoaaDoorIcBl4
import Derived.Test.YtjbkfppibnlmoaaDoorIbRe
import Derived.Test.YtjbkfppibnlmoaaDoorIbRead
/-
  The loose pair: takeList of a list of entries.
-/
namespace Go.Proofs.YtjbkfppibnlmoaaDoor
open Go.RowKit

section
variable {W w w' : World} {X K n C D E : Nat} {bv mk ke rm L : Value} {o : Option (Int × Int)} {A A' : List Ent}
set_option maxRecDepth 100000 in
set_option maxHeartbeats 4000000 in
theorem takeList_any (h : LS W X K bv mk ke rm L C D E o A A' n w) (hn : n ≤ 700000) {B : Nat} {a : Option Addr} {m c : Nat} {ls : List Ent} (hr : NRow w B (.slice a m c) ls) (hl : ∀ l ∈ ls, Tk w l) (hm : m ≤ 1000) : Calls Tryd.prog 43 #[.pointer (some ⟨X, 0, none⟩), .slice a m c] w fun e w' => e = .returned (.tuple #[]) ∧ Hid (LQ W X K bv mk ke rm L C D E o A A' (n + 3 * m + 1) w w') := by
  have HH : Hid (NRow w B (.slice a m c) ls ∧ (∀ l ∈ ls, Tk w l) ∧ ls.length = m) := ⟨hr, hl, (ERow.len hr).symm⟩
  have HI0 : Hid (LQ W X K bv mk ke rm L C D E o A A' (n + 3 * 0) w w) := ⟨h, Nat.le_refl _, fun _ _ _ h _ => h⟩
  clear h hr hl
  go_enter Tryd.func43, Tryd.ntmps43
  go_wp2_with fail
  go_loopw [4] (fun ti wx => ∃ i : Nat, i ≤ m ∧ ti = .int .i64 i ∧ Hid (LQ W X K bv mk ke rm L C D E o A A' (n + 3 * i) w wx)) (fun ti _ => m - (intOf ti).toNat)
  case atStart => exact ⟨0, Nat.zero_le _, rfl, HI0⟩
  case round =>
    obtain ⟨i, hi, rfl, HI⟩ := hrel
    by_cases hlt : i < m
    · have hlt1 : (i : Int) < m := by omega
      obtain ⟨l, hl⟩ : ∃ l, ls[i]? = some l := ⟨_, List.getElem?_eq_getElem (by rw [HH.out.2.2]; exact hlt)⟩
      obtain ⟨g, rfl, hg, d0, d1, d2, d3, d4, d5, d6⟩ := nrow_cells (ERow.kp HH.out.1 HI.out.2 nLE) hl
      have htk := tk_any HI.out.1 (by omega) l ((HH.out.2.1 l (List.mem_of_getElem? hl)).kp HI.out.2)
      clear hl hg
      go_wp2_with fail
      refine htk.mono ?_
      rintro _ w1 ⟨rfl, H1⟩
      have HJ : Hid (LQ W X K bv mk ke rm L C D E o A A' (n + 3 * (i + 1)) w w1) := ⟨H1.out.1.mono (by omega), HI.out.2.trans H1.out.2⟩
      clear htk H1 HI d0 d1 d2 d3 d4 d5 d6
      go_wp2_with fail
      go_roundw
      case rel => exact ⟨i + 1, hlt, by go_num, HJ⟩
      case measure => simp [intOf]; omega
    · have hlt1 : ¬ (i : Int) < m := by omega
      obtain rfl : i = m := by omega
      obtain ⟨U, rfl⟩ : ∃ U, U = wr := ⟨_, rfl⟩
      have HQ : Hid (LQ W X K bv mk ke rm L C D E o A A' (n + 3 * i) w U) := HI
      clear HI
      go_wp2_with fail
      go_loopw [5, 6] (fun t5 t6 wx => ∃ j : Nat, j ≤ i ∧ t6 = .int .i64 j ∧ Hid (∃ xs, xs.length = j ∧ NRow wx U.heap.size t5 xs ∧ Below U.heap.size U wx)) (fun _ t6 _ => i - (intOf t6).toNat)
      case atStart => exact ⟨0, Nat.zero_le _, rfl, [], rfl, ERow.nil _ _ _ _ _, Below.refl _ _⟩
      case round =>
        obtain ⟨j, hj, rfl, HJ⟩ := hrel
        obtain ⟨xs, hxl, hxr, hxb⟩ := HJ.out
        obtain ⟨a5, c5, e5, _⟩ := ERow.isSlice hxr
        rw [hxl] at e5
        subst e5
        by_cases hltj : j < i
        · have hltj1 : (j : Int) < i := by omega
          have hkq := HQ.out.2.trans (Kp.of_below hxb)
          obtain ⟨l, hl⟩ : ∃ l, ls[j]? = some l := ⟨_, List.getElem?_eq_getElem (by rw [HH.out.2.2]; exact hltj)⟩
          obtain ⟨g, rfl, hg, d0, d1, d2, d3, d4, d5, d6⟩ := nrow_cells (ERow.kp HH.out.1 hkq nLE) hl
          obtain ⟨⟨B1, ho1⟩, t1, t2, t3⟩ := (HH.out.2.1 l (List.mem_of_getElem? hl)).kp hkq
          have htw := rtwin_any l wr ho1.lies t1 t2 t3
          have HX : Hid (xs.length = j ∧ NRow wr U.heap.size (.slice a5 j c5) xs ∧ Below U.heap.size U wr) := ⟨hxl, hxr, hxb⟩
          clear hl hg ho1 t1 t2 t3 hkq hxl hxr hxb HJ
          go_wp2_with fail
          refine htw.mono ?_
          rintro _ w3 ⟨a1, k1, a2, k2, a3, k3, rfl, _, hb3⟩
          have hb4 : Below wr.heap.size wr (w3.alloc (.cells #[.string l.ct, .slice a1 l.tn k1, .int .i64 l.nu, .int .i64 l.tk, .slice a2 l.cn k2, .string l.cd, .slice a3 l.an k3] 30)) := hb3.alloc hb3.size _
          obtain ⟨a6, c6, W2, hap, r2, o2, _⟩ := run_epush (P := Tryd.prog) (t := 22) Tryd.underlying22 celE encE_len encE_one (w := w3.alloc (.cells #[.string l.ct, .slice a1 l.tn k1, .int .i64 l.nu, .int .i64 l.tk, .slice a2 l.cn k2, .string l.cd, .slice a3 l.an k3] 30)) (ERow.below HX.out.2.1 hb4) (l.wi a1 k1 a2 k2 a3 k3) #[.string l.ct, .slice a1 l.tn k1, .int .i64 l.nu, .int .i64 l.tk, .slice a2 l.cn k2, .string l.cd, .slice a3 l.an k3] rfl (by have := HX.out.1; omega) (by decide) (Nat.le_trans HX.out.2.2.size hb4.size)
          have HX2 : Hid (∃ xs, xs.length = j + 1 ∧ NRow W2 U.heap.size (.slice a6 (j + 1) c6) xs ∧ Below U.heap.size U W2) := by
            rw [HX.out.1] at r2
            refine ⟨_, ?_, r2, (below_then HX.out.2.2 hb4).trans (o2.below (Nat.le_trans HX.out.2.2.size hb4.size) fun q hq => (ERow.lt HX.out.2.1 hq).1)⟩
            rw [List.length_append, HX.out.1]; rfl
          rw [HX.out.1, World.size_alloc] at hap
          clear htw hb3 hb4 r2 o2 HX d0 d1 d2 d3 d4 d5 d6
          go_wp2_with (at_builtin; refine wpList_append_run rfl (.tmp 31) (.tmp 33) 22 _ rfl hap ?_)
          go_roundw
          case rel => exact ⟨j + 1, hltj, by go_num, HX2⟩
          case measure => simp [intOf]; omega
        · have hltj1 : ¬ (j : Int) < i := by omega
          obtain ⟨v0, v1, a0, n0, c0, w2, a1, n1, c1, w4, k0, r1, k1, k2, k3, r2, k4, k5, R⟩ := ls_list (HQ.out.1.below hxb) (by omega) (a, i, c) (a5, j, c5)
          have HZ : Hid (LQ W X K bv mk ke rm L C D E o A A' (n + 3 * i + 1) w (w4.setCell ⟨X, 7, none⟩ (.slice a1 n1 c1))) := ⟨R.out.1, HQ.out.2.trans ((Kp.of_below hxb).trans R.out.2)⟩
          clear R HH HQ HJ hxl hxr hxb
          go_wp2_with (at_builtin; first | refine wpList_append_run rfl (.tmp 39) (.tmp 41) 50 _ rfl r1 ?_ | refine wpList_append_run rfl (.tmp 49) (.tmp 51) 50 _ rfl r2 ?_)
          go_end0
          exact ⟨rfl, HZ⟩
end
end Go.Proofs.YtjbkfppibnlmoaaDoor

/-
  The document's box that nobody made: Accept, Decide, Find.
-/
namespace Go.Proofs.YtjbkfppibnlmoaaDoor
open Go.RowKit

section
variable {w : World} {X : Nat}
set_option maxRecDepth 100000 in
set_option maxHeartbeats 2000000 in
theorem rat0 (cL : w.cell? ⟨X, 4, none⟩ = some (.slice none 0 0)) (s : ByteArray) : Calls Tryd.prog 29 #[.pointer (some ⟨X, 1, none⟩), .string s] w fun r w' => r = .returned (.int .i64 (-1)) ∧ w' = w := by
  go_enter Tryd.func29, Tryd.ntmps29
  go_wp2_with fail
  refine wp_loop_rounds 1 ?_
  rw [rounds_succ]
  go_wp2_with fail
  go_ret
  exact ⟨rfl, rfl⟩
set_option maxRecDepth 100000 in
set_option maxHeartbeats 2000000 in
theorem rlastN {b : Nat} {a : Option Addr} {c : Nat} (cL : w.cell? ⟨b, 4, none⟩ = some (.slice a 0 c)) : Calls Tryd.prog 36 #[.pointer (some ⟨b, 1, none⟩)] w fun r w' => r = .returned (.tuple #[.agg #[.string ⟨#[]⟩, .slice none 0 0, .int .i64 0, .int .i64 0, .slice none 0 0, .string ⟨#[]⟩, .slice none 0 0], .bool false]) ∧ Below w.heap.size w w' := by
  have bv : Below w.heap.size w (w.alloc (.cells #[.string ⟨#[]⟩, .slice none 0 0, .int .i64 0, .int .i64 0, .slice none 0 0, .string ⟨#[]⟩, .slice none 0 0] 30)) := (Below.refl _ _).alloc (Nat.le_refl _) _
  have bx := Box.new w #[.string ⟨#[]⟩, .slice none 0 0, .int .i64 0, .int .i64 0, .slice none 0 0, .string ⟨#[]⟩, .slice none 0 0] 30
  obtain ⟨V, hV⟩ : ∃ V, w.alloc (.cells #[.string ⟨#[]⟩, .slice none 0 0, .int .i64 0, .int .i64 0, .slice none 0 0, .string ⟨#[]⟩, .slice none 0 0] 30) = V := ⟨_, rfl⟩
  rw [hV] at bv bx
  have cV : V.cell? ⟨b, 4, none⟩ = some (.slice a 0 c) := by rw [bv.cell (p := ⟨b, 4, none⟩) (cell_lt cL)]; exact cL
  have cx := bx.cell
  have fx := bx.free
  have HB : Hid (Below w.heap.size w V) := bv
  clear bv bx cL
  go_enter Tryd.func36, Tryd.ntmps36
  go_wp2_with fail
  clear hV
  refine bodyPost_ret (v := .tuple #[.agg #[.string ⟨#[]⟩, .slice none 0 0, .int .i64 0, .int .i64 0, .slice none 0 0, .string ⟨#[]⟩, .slice none 0 0], .bool false]) ?_ rfl ⟨rfl, ?_⟩
  · simp [results, Tryd.results36, go_sem, cx]
  · repeat' (first | (with_reducible exact HB.out) | (with_reducible refine Below.setCell ?_ (by exact Nat.le_refl _) _) | (with_reducible refine Below.alloc ?_ (by simp; omega) _))
end
end Go.Proofs.YtjbkfppibnlmoaaDoor

/-
  Both boxes: Accept and Decide, whatever they answer.
-/
namespace Go.Proofs.YtjbkfppibnlmoaaDoor
open Go.RowKit

def accCo (o : Option (Int × Int)) (A : List Ent) (e : Ent) : Int := match o with | none => 3 | some (_, R) => accC R A e
def accSo (o : Option (Int × Int)) (A : List Ent) (e : Ent) : List Ent := match o with | none => A | some (_, R) => accS R A e
def decCo (o : Option (Int × Int)) (A : List Ent) (s cd : ByteArray) (n : Nat) : Int := match o with | none => 3 | some _ => decC A s cd n
def dcSo (o : Option (Int × Int)) (A : List Ent) (s cd : ByteArray) (n : Nat) (bs : List Int) : List Ent := match o with | none => A | some (K, _) => dcS K A s cd n bs
def gnSo (o : Option (Int × Int)) (A : List Ent) (s cd : ByteArray) (n : Nat) (bs : List Int) : List ByteArray := match o with | none => [] | some (K, _) => gnS K A s cd n bs
section
variable {W w w' : World} {X K n C D E : Nat} {bv mk ke rm L : Value} {o : Option (Int × Int)} {A A' : List Ent}
/-- Behind a call of the program's box. -/
theorem LS.up {K0 R : Int} {b sb M : Nat} {v : Value} {es es' es1 A1 : List Ent} (h : LS W X K bv (.bool true) (.int .i64 K0) (.int .i64 R) L C D E (some (K0, R)) A A' n w) (hbv : bv = .pointer (some ⟨b, 0, none⟩)) (hs : Sm w W.heap.size C D E X b sb M v L K0 R es A es' A') (hD : D ≤ w.heap.size) (hE : E = w.heap.size) (hq : BxQ w W.heap.size b sb M v K0 R es1 w') (ht : Tws es1 A1) (hn : ∀ e ∈ es1, ∀ q, Blk e q → (∃ e0 ∈ es, Blk e0 q) ∨ w.heap.size ≤ q) : LS W X K bv (.bool true) (.int .i64 K0) (.int .i64 R) L C D w'.heap.size (some (K0, R)) A1 A' n w' ∧ (∀ q, C ≤ q → q < D → w'.heap[q]? = w.heap[q]?) ∧ w.heap.size ≤ w'.heap.size := by
  obtain ⟨v', hs1, ho⟩ := hs.up h.cells.2.2.2.2 hD hE hq ht hn
  refine ⟨⟨h.offT ho fun q cs t hc ht' => hs.bx.sh.notType (ht'.no (by decide) (by decide) (by decide) (by decide) (by decide)) (ht'.no (by decide) (by decide) (by decide) (by decide) (by decide)) hc, ⟨rfl, rfl, rfl, b, sb, M, v', es1, es', hbv, hs1⟩, h.bel.trans (ho.below h.bel.size fun q hq => hs.bx.ft hq), h.lX, h.lK⟩, fun q h1 h2 => ho.block q (by omega) fun hf => ?_, ho.size⟩
  have := hs.hp q (Or.inr (Or.inl hf))
  omega
/-- Behind a call of the document's. -/
theorem LS.dn {K0 R : Int} {b sb M : Nat} {v : Value} {es es' es1 A1 : List Ent} (h : LS W X K bv (.bool true) (.int .i64 K0) (.int .i64 R) L C D E (some (K0, R)) A A' n w) (hbv : bv = .pointer (some ⟨b, 0, none⟩)) (hs : Sm w W.heap.size C D E X b sb M v L K0 R es A es' A') (hE : E ≤ w.heap.size) (hq : RBQ w W.heap.size X L K0 R es1 w') (ht : Tws es1 A1) (hn : ∀ e ∈ es1, ∀ q, Blk e q → (∃ e0 ∈ es', Blk e0 q) ∨ w.heap.size ≤ q) : ∃ L', LS W X K bv (.bool true) (.int .i64 K0) (.int .i64 R) L' C D E (some (K0, R)) A A1 n w' ∧ (∀ q, C ≤ q → q < E → w'.heap[q]? = w.heap[q]?) ∧ w.heap.size ≤ w'.heap.size := by
  obtain ⟨v0, v1, v4, v5, v6, v7, x0, x1, x4, x5, x6, x7, hX, hK, ⟨a0, a1, a2, a3, a4⟩, ⟨b0, b1, b2, b3, b4⟩, ⟨c0, c1, c2, c3, c4⟩⟩ := h.ex
  obtain ⟨L', hs1, hX1, ho⟩ := hs.dn hX hE hq ht hn
  have nT : ∀ {q : Nat} {cs : Array Value} {t : TypeId}, w.heap[q]? = some (.cells cs t (0, 0)) → t ≠ 52 → t ≠ 30 → ¬ (q = X ∨ L.ownBlock = some q) := fun {q cs t} hc h1 h2 => by
    rintro (g | g)
    · rw [g, hX] at hc
      simp only [Option.some.injEq, Obj.cells.injEq] at hc
      exact h1 hc.2.1.symm
    · obtain ⟨cs', hc'⟩ := row_type hs.row g
      rw [hc'] at hc
      simp only [Option.some.injEq, Obj.cells.injEq] at hc
      exact h2 hc.2.1.symm
  have key : ∀ {e : TypeId} {v : Value} {xs : List Sl}, e ≠ 52 → e ≠ 30 → ERow w W.heap.size e 1 encSl v xs → ERow w' W.heap.size e 1 encSl v xs := fun {e v xs} h1 h2 hr => ERow.off hr ho fun g hg => by
    obtain ⟨cs, hc⟩ := erow_type hr hg
    exact nT hc h1 h2
  refine ⟨L', ⟨⟨v0, v1, v4, v5, v6, v7, x0, x1, x4, x5, x6, x7, hX1, (ho.block K (blk_lt hK) (nT hK (by decide) (by decide))).trans hK, ⟨key (by decide) (by decide) a0, key (by decide) (by decide) a1, a2, a3, a4⟩, ⟨key (by decide) (by decide) b0, key (by decide) (by decide) b1, b2, b3, b4⟩, ⟨key (by decide) (by decide) c0, key (by decide) (by decide) c1, c2, c3, c4⟩⟩, ⟨rfl, rfl, rfl, b, sb, M, v, es, es1, hbv, hs1⟩, h.bel.trans (ho.below h.bel.size fun q hq => ?_), h.lX, h.lK⟩, fun q h1 h2 => ho.block q (by omega) fun hf => ?_, ho.size⟩
  · rcases hq with rfl | hq
    · exact h.lX
    · exact (ERow.lt hs.row hq).1
  · have := hs.hd q (hf.imp id fun g => Or.inl g)
    omega
theorem blk_snoc {es : List Ent} {x : Ent} {V z : World} {B : Nat} (hx : Own z B x) {e : Ent} (he : e ∈ es ++ [x]) {q : Nat} (hq : Blk e q) (hV : V.heap.size ≤ B) : (∃ e0 ∈ es, Blk e0 q) ∨ V.heap.size ≤ q := by
  rcases List.mem_append.1 he with g | g
  · exact Or.inl ⟨e, g, hq⟩
  · obtain rfl : e = x := by simpa using g
    exact Or.inr (Nat.le_trans hV (hx.blk hq).1)
end
end Go.Proofs.YtjbkfppibnlmoaaDoor

/-
  Both boxes: Decide, whatever it answers.
-/
namespace Go.Proofs.YtjbkfppibnlmoaaDoor
open Go.RowKit

theorem opB_vd {cd : ByteArray} (hv : vdB cd = true) (x : Ent) (p : Option Addr) (n c : Nat) (bs : List Int) : opB (x.vd cd p n c bs) = false := by
  show cd.toList.isEmpty = false
  unfold vdB at hv
  cases h : cd.toList with
  | nil => rw [h] at hv; simp at hv
  | cons _ _ => rfl
theorem blk_vd {es : List Ent} {i : Nat} {x : Ent} (hx : es[i]? = some x) {cd : ByteArray} {p : Option Addr} {n c : Nat} {bs : List Int} {K : Int} {V z : World} (hr : BRow z V.heap.size (.slice p n c) bs) {e : Ent} (he : e ∈ shedS K (es.set i (x.vd cd p n c bs))) {q : Nat} (hq : Blk e q) : (∃ e0 ∈ es, Blk e0 q) ∨ V.heap.size ≤ q := by
  rcases List.mem_or_eq_of_mem_set (mem_shed he) with g | rfl
  · exact Or.inl ⟨e, g, hq⟩
  · rcases hq with g | g | g
    · exact Or.inl ⟨x, List.mem_of_getElem? hx, Or.inl g⟩
    · exact Or.inl ⟨x, List.mem_of_getElem? hx, Or.inr (Or.inl g)⟩
    · exact Or.inr (ERow.lt hr g).1
section
variable {W w w' : World} {X K n C D E : Nat} {bv mk ke rm L : Value} {o : Option (Int × Int)} {A A' : List Ent}
theorem many_tws {K : Int} {ls ms : List Ent} (h : Tws ls ms) : manyB K ls = manyB K ms := by unfold manyB; rw [h.dc_eq]
end
end Go.Proofs.YtjbkfppibnlmoaaDoor
