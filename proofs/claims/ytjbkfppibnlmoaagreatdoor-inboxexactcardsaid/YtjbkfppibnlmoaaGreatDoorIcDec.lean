import Derived.Test.YtjbkfppibnlmoaaGreatDoorIcBl4
import Derived.Test.YtjbkfppibnlmoaaGreatDoorIbRe
import Derived.Test.YtjbkfppibnlmoaaGreatDoorIbRead
/-
  The loose pair: takeList of a list of entries.
-/
namespace Go.Proofs.YtjbkfppibnlmoaaGreatDoor
open Go.RowKit

section
variable {W w w' : World} {X K n C D E : Nat} {bv mk ke rm L : Value} {o : Option (Int × Int)} {A A' : List Ent}
set_option maxRecDepth 100000 in
set_option maxHeartbeats 4000000 in
theorem takeList_any (h : LS W X K bv mk ke rm L C D E o A A' n w) (hn : n ≤ 700000) {B : Nat} {a : Option Addr} {m c : Nat} {ls : List Ent} (hr : NRow w B (.slice a m c) ls) (hl : ∀ l ∈ ls, Tk w l) (hm : m ≤ 1000) : Calls Tryz.prog 33 #[.pointer (some ⟨X, 0, none⟩), .slice a m c] w fun e w' => e = .returned (.tuple #[]) ∧ Hid (LQ W X K bv mk ke rm L C D E o A A' (n + 3 * m + 1) w w') := by
  have HH : Hid (NRow w B (.slice a m c) ls ∧ (∀ l ∈ ls, Tk w l) ∧ ls.length = m) := ⟨hr, hl, (ERow.len hr).symm⟩
  have HI0 : Hid (LQ W X K bv mk ke rm L C D E o A A' (n + 3 * 0) w w) := ⟨h, Nat.le_refl _, fun _ _ _ h _ => h⟩
  clear h hr hl
  go_enter Tryz.func33, Tryz.ntmps33
  go_wp2_with fail
  go_loopw [4] (fun ti wx => ∃ i : Nat, i ≤ m ∧ ti = .int .i64 i ∧ Hid (LQ W X K bv mk ke rm L C D E o A A' (n + 3 * i) w wx)) (fun ti _ => m - (intOf ti).toNat)
  case atStart => exact ⟨0, Nat.zero_le _, rfl, HI0⟩
  case round =>
    obtain ⟨i, hi, rfl, HI⟩ := hrel
    by_cases hlt : i < m
    · have hlt1 : (i : Int) < m := by omega
      obtain ⟨l, hl⟩ : ∃ l, ls[i]? = some l := ⟨_, List.getElem?_eq_getElem (by rw [HH.out.2.2]; exact hlt)⟩
      obtain ⟨g, rfl, hg, d0, d1, d2, d3, d4, d5, d6⟩ := nrow_cells (ERow.kp HH.out.1 HI.out.2 nLE) hl
      have htk := tk_any HI.out.1 (by omega) l ((HH.out.2.1 l (List.mem_of_getElem? hl)).kp HI.out.2)
      clear hl hg
      go_wp2_with fail
      refine htk.mono ?_
      rintro _ w1 ⟨rfl, H1⟩
      have HJ : Hid (LQ W X K bv mk ke rm L C D E o A A' (n + 3 * (i + 1)) w w1) := ⟨H1.out.1.mono (by omega), HI.out.2.trans H1.out.2⟩
      clear htk H1 HI d0 d1 d2 d3 d4 d5 d6
      go_wp2_with fail
      go_roundw
      case rel => exact ⟨i + 1, hlt, by go_num, HJ⟩
      case measure => simp [intOf]; omega
    · have hlt1 : ¬ (i : Int) < m := by omega
      obtain rfl : i = m := by omega
      obtain ⟨U, rfl⟩ : ∃ U, U = wr := ⟨_, rfl⟩
      have HQ : Hid (LQ W X K bv mk ke rm L C D E o A A' (n + 3 * i) w U) := HI
      clear HI
      go_wp2_with fail
      go_loopw [5, 6] (fun t5 t6 wx => ∃ j : Nat, j ≤ i ∧ t6 = .int .i64 j ∧ Hid (∃ xs, xs.length = j ∧ NRow wx U.heap.size t5 xs ∧ Below U.heap.size U wx)) (fun _ t6 _ => i - (intOf t6).toNat)
      case atStart => exact ⟨0, Nat.zero_le _, rfl, [], rfl, ERow.nil _ _ _ _ _, Below.refl _ _⟩
      case round =>
        obtain ⟨j, hj, rfl, HJ⟩ := hrel
        obtain ⟨xs, hxl, hxr, hxb⟩ := HJ.out
        obtain ⟨a5, c5, e5, _⟩ := ERow.isSlice hxr
        rw [hxl] at e5
        subst e5
        by_cases hltj : j < i
        · have hltj1 : (j : Int) < i := by omega
          have hkq := HQ.out.2.trans (Kp.of_below hxb)
          obtain ⟨l, hl⟩ : ∃ l, ls[j]? = some l := ⟨_, List.getElem?_eq_getElem (by rw [HH.out.2.2]; exact hltj)⟩
          obtain ⟨g, rfl, hg, d0, d1, d2, d3, d4, d5, d6⟩ := nrow_cells (ERow.kp HH.out.1 hkq nLE) hl
          obtain ⟨⟨B1, ho1⟩, t1, t2, t3⟩ := (HH.out.2.1 l (List.mem_of_getElem? hl)).kp hkq
          have htw := rtwin_any l wr ho1.lies t1 t2 t3
          have HX : Hid (xs.length = j ∧ NRow wr U.heap.size (.slice a5 j c5) xs ∧ Below U.heap.size U wr) := ⟨hxl, hxr, hxb⟩
          clear hl hg ho1 t1 t2 t3 hkq hxl hxr hxb HJ
          go_wp2_with fail
          refine htw.mono ?_
          rintro _ w3 ⟨a1, k1, a2, k2, a3, k3, rfl, _, hb3⟩
          have hb4 : Below wr.heap.size wr (w3.alloc (.cells #[.string l.ct, .slice a1 l.tn k1, .int .i64 l.nu, .int .i64 l.tk, .slice a2 l.cn k2, .string l.cd, .slice a3 l.an k3] 30)) := hb3.alloc hb3.size _
          obtain ⟨a6, c6, W2, hap, r2, o2, _⟩ := run_epush (P := Tryz.prog) (t := 22) Tryz.underlying22 celE encE_len encE_one (w := w3.alloc (.cells #[.string l.ct, .slice a1 l.tn k1, .int .i64 l.nu, .int .i64 l.tk, .slice a2 l.cn k2, .string l.cd, .slice a3 l.an k3] 30)) (ERow.below HX.out.2.1 hb4) (l.wi a1 k1 a2 k2 a3 k3) #[.string l.ct, .slice a1 l.tn k1, .int .i64 l.nu, .int .i64 l.tk, .slice a2 l.cn k2, .string l.cd, .slice a3 l.an k3] rfl (by have := HX.out.1; omega) (by decide) (Nat.le_trans HX.out.2.2.size hb4.size)
          have HX2 : Hid (∃ xs, xs.length = j + 1 ∧ NRow W2 U.heap.size (.slice a6 (j + 1) c6) xs ∧ Below U.heap.size U W2) := by
            rw [HX.out.1] at r2
            refine ⟨_, ?_, r2, (below_then HX.out.2.2 hb4).trans (o2.below (Nat.le_trans HX.out.2.2.size hb4.size) fun q hq => (ERow.lt HX.out.2.1 hq).1)⟩
            rw [List.length_append, HX.out.1]; rfl
          rw [HX.out.1, World.size_alloc] at hap
          clear htw hb3 hb4 r2 o2 HX d0 d1 d2 d3 d4 d5 d6
          go_wp2_with (at_builtin; refine wpList_append_run rfl (.tmp 31) (.tmp 33) 22 _ rfl hap ?_)
          go_roundw
          case rel => exact ⟨j + 1, hltj, by go_num, HX2⟩
          case measure => simp [intOf]; omega
        · have hltj1 : ¬ (j : Int) < i := by omega
          obtain ⟨v0, v1, a0, n0, c0, w2, a1, n1, c1, w4, k0, r1, k1, k2, k3, r2, k4, k5, R⟩ := ls_list (HQ.out.1.below hxb) (by omega) (a, i, c) (a5, j, c5)
          have HZ : Hid (LQ W X K bv mk ke rm L C D E o A A' (n + 3 * i + 1) w (w4.setCell ⟨X, 7, none⟩ (.slice a1 n1 c1))) := ⟨R.out.1, HQ.out.2.trans ((Kp.of_below hxb).trans R.out.2)⟩
          clear R HH HQ HJ hxl hxr hxb
          go_wp2_with (at_builtin; first | refine wpList_append_run rfl (.tmp 39) (.tmp 41) 53 _ rfl r1 ?_ | refine wpList_append_run rfl (.tmp 49) (.tmp 51) 53 _ rfl r2 ?_)
          go_end0
          exact ⟨rfl, HZ⟩
end
end Go.Proofs.YtjbkfppibnlmoaaGreatDoor

/-
  The document's box that nobody made: Accept, Decide, Find.
-/
namespace Go.Proofs.YtjbkfppibnlmoaaGreatDoor
open Go.RowKit

section
variable {w : World} {X : Nat}
set_option maxRecDepth 100000 in
set_option maxHeartbeats 2000000 in
theorem racc0 (c1 : w.cell? ⟨X, 1, none⟩ = some (.bool false)) (e : Ent) : Calls Tryz.prog 55 #[.pointer (some ⟨X, 1, none⟩), .agg #[.string e.ct, .slice e.tp e.tn e.tc, .int .i64 e.nu, .int .i64 e.tk, .slice e.cp e.cn e.cc, .string e.cd, .slice e.ap e.an e.ac]] w fun r w' => r = .returned (.int .i64 3) ∧ Below w.heap.size w w' := by
  have bv : Below w.heap.size w (w.alloc (.cells #[.string e.ct, .slice e.tp e.tn e.tc, .int .i64 e.nu, .int .i64 e.tk, .slice e.cp e.cn e.cc, .string e.cd, .slice e.ap e.an e.ac] 30)) := (Below.refl _ _).alloc (Nat.le_refl _) _
  obtain ⟨V, hV⟩ : ∃ V, w.alloc (.cells #[.string e.ct, .slice e.tp e.tn e.tc, .int .i64 e.nu, .int .i64 e.tk, .slice e.cp e.cn e.cc, .string e.cd, .slice e.ap e.an e.ac] 30) = V := ⟨_, rfl⟩
  rw [hV] at bv
  have k1 : V.cell? ⟨X, 1, none⟩ = some (.bool false) := by rw [bv.cell (p := ⟨X, 1, none⟩) (cell_lt c1)]; exact c1
  have HB : Hid (Below w.heap.size w V) := bv
  clear bv c1
  go_enter Tryz.func55, Tryz.ntmps55
  go_wp2_with fail
  go_ret
  exact ⟨rfl, HB.out⟩
set_option maxRecDepth 100000 in
set_option maxHeartbeats 2000000 in
theorem rdec0 (c1 : w.cell? ⟨X, 1, none⟩ = some (.bool false)) (s cd : ByteArray) (p : Option Addr) (n c : Nat) : Calls Tryz.prog 57 #[.pointer (some ⟨X, 1, none⟩), .string s, .string cd, .slice p n c] w fun r w' => r = .returned (.tuple #[.slice none 0 0, .int .i64 3]) ∧ w' = w := by
  go_enter Tryz.func57, Tryz.ntmps57
  go_wp2_with fail
  go_ret2
  exact ⟨rfl, rfl⟩
set_option maxRecDepth 100000 in
set_option maxHeartbeats 2000000 in
theorem rat0 (cL : w.cell? ⟨X, 4, none⟩ = some (.slice none 0 0)) (s : ByteArray) : Calls Tryz.prog 48 #[.pointer (some ⟨X, 1, none⟩), .string s] w fun r w' => r = .returned (.int .i64 (-1)) ∧ w' = w := by
  go_enter Tryz.func48, Tryz.ntmps48
  go_wp2_with fail
  refine wp_loop_rounds 1 ?_
  rw [rounds_succ]
  go_wp2_with fail
  go_ret
  exact ⟨rfl, rfl⟩
set_option maxRecDepth 100000 in
set_option maxHeartbeats 2000000 in
theorem rfind0 (cL : w.cell? ⟨X, 4, none⟩ = some (.slice none 0 0)) (s : ByteArray) : Calls Tryz.prog 59 #[.pointer (some ⟨X, 1, none⟩), .string s] w (EnQ w zE false) := by
  have bv : Below w.heap.size w (w.alloc (.cells #[.string ⟨#[]⟩, .slice none 0 0, .int .i64 0, .int .i64 0, .slice none 0 0, .string ⟨#[]⟩, .slice none 0 0] 30)) := (Below.refl _ _).alloc (Nat.le_refl _) _
  have bx := Box.new w #[.string ⟨#[]⟩, .slice none 0 0, .int .i64 0, .int .i64 0, .slice none 0 0, .string ⟨#[]⟩, .slice none 0 0] 30
  obtain ⟨V, hV⟩ : ∃ V, w.alloc (.cells #[.string ⟨#[]⟩, .slice none 0 0, .int .i64 0, .int .i64 0, .slice none 0 0, .string ⟨#[]⟩, .slice none 0 0] 30) = V := ⟨_, rfl⟩
  rw [hV] at bv bx
  have hat := rat0 (w := V) (by rw [bv.cell (p := ⟨X, 4, none⟩) (cell_lt cL)]; exact cL) s
  obtain ⟨xb, hxb⟩ : ∃ xb, w.heap.size = xb := ⟨_, rfl⟩
  have HB : Hid (Below w.heap.size w V) := bv
  rw [hxb] at bx
  have cx := bx.cell
  have fx := bx.free
  clear bv bx cL
  go_enter Tryz.func59, Tryz.ntmps59
  go_wp2_with fail
  clear hV
  refine hat.mono ?_
  rintro _ w9 ⟨rfl, h9⟩
  subst w9
  go_wp2_with fail
  refine bodyPost_ret (v := .tuple #[.agg #[.string ⟨#[]⟩, .slice none 0 0, .int .i64 0, .int .i64 0, .slice none 0 0, .string ⟨#[]⟩, .slice none 0 0], .bool false]) ?_ rfl ⟨none, 0, none, 0, none, 0, rfl, zE_own _ _, ?_⟩
  · simp [results, Tryz.results59, go_sem, cx]
  · have hle := HB.out
    refine hle.trans (Off.below (P := fun q => q = xb) ?_ hle.size fun k hk => by omega)
    iterate 7 (refine Off.setCell (P := fun q => q = xb) ?_ (by exact rfl) _)
    exact Off.refl _ _
set_option maxRecDepth 100000 in
set_option maxHeartbeats 2000000 in
theorem rlastN {b : Nat} {a : Option Addr} {c : Nat} (cL : w.cell? ⟨b, 4, none⟩ = some (.slice a 0 c)) : Calls Tryz.prog 22 #[.pointer (some ⟨b, 1, none⟩)] w fun r w' => r = .returned (.tuple #[.agg #[.string ⟨#[]⟩, .slice none 0 0, .int .i64 0, .int .i64 0, .slice none 0 0, .string ⟨#[]⟩, .slice none 0 0], .bool false]) ∧ Below w.heap.size w w' := by
  have bv : Below w.heap.size w (w.alloc (.cells #[.string ⟨#[]⟩, .slice none 0 0, .int .i64 0, .int .i64 0, .slice none 0 0, .string ⟨#[]⟩, .slice none 0 0] 30)) := (Below.refl _ _).alloc (Nat.le_refl _) _
  have bx := Box.new w #[.string ⟨#[]⟩, .slice none 0 0, .int .i64 0, .int .i64 0, .slice none 0 0, .string ⟨#[]⟩, .slice none 0 0] 30
  obtain ⟨V, hV⟩ : ∃ V, w.alloc (.cells #[.string ⟨#[]⟩, .slice none 0 0, .int .i64 0, .int .i64 0, .slice none 0 0, .string ⟨#[]⟩, .slice none 0 0] 30) = V := ⟨_, rfl⟩
  rw [hV] at bv bx
  have cV : V.cell? ⟨b, 4, none⟩ = some (.slice a 0 c) := by rw [bv.cell (p := ⟨b, 4, none⟩) (cell_lt cL)]; exact cL
  have cx := bx.cell
  have fx := bx.free
  have HB : Hid (Below w.heap.size w V) := bv
  clear bv bx cL
  go_enter Tryz.func22, Tryz.ntmps22
  go_wp2_with fail
  clear hV
  refine bodyPost_ret (v := .tuple #[.agg #[.string ⟨#[]⟩, .slice none 0 0, .int .i64 0, .int .i64 0, .slice none 0 0, .string ⟨#[]⟩, .slice none 0 0], .bool false]) ?_ rfl ⟨rfl, ?_⟩
  · simp [results, Tryz.results22, go_sem, cx]
  · repeat' (first | (with_reducible exact HB.out) | (with_reducible refine Below.setCell ?_ (by exact Nat.le_refl _) _) | (with_reducible refine Below.alloc ?_ (by simp; omega) _))
end
end Go.Proofs.YtjbkfppibnlmoaaGreatDoor

/-
  Both boxes: Accept and Decide, whatever they answer.
-/
namespace Go.Proofs.YtjbkfppibnlmoaaGreatDoor
open Go.RowKit

def accCo (o : Option (Int × Int)) (A : List Ent) (e : Ent) : Int := match o with | none => 3 | some (_, R) => accC R A e
def accSo (o : Option (Int × Int)) (A : List Ent) (e : Ent) : List Ent := match o with | none => A | some (_, R) => accS R A e
def decCo (o : Option (Int × Int)) (A : List Ent) (s cd : ByteArray) (n : Nat) : Int := match o with | none => 3 | some _ => decC A s cd n
def dcSo (o : Option (Int × Int)) (A : List Ent) (s cd : ByteArray) (n : Nat) (bs : List Int) : List Ent := match o with | none => A | some (K, _) => dcS K A s cd n bs
def gnSo (o : Option (Int × Int)) (A : List Ent) (s cd : ByteArray) (n : Nat) (bs : List Int) : List ByteArray := match o with | none => [] | some (K, _) => gnS K A s cd n bs
section
variable {W w w' : World} {X K n C D E : Nat} {bv mk ke rm L : Value} {o : Option (Int × Int)} {A A' : List Ent}
/-- Behind a call of the program's box. -/
theorem LS.up {K0 R : Int} {b sb M : Nat} {v : Value} {es es' es1 A1 : List Ent} (h : LS W X K bv (.bool true) (.int .i64 K0) (.int .i64 R) L C D E (some (K0, R)) A A' n w) (hbv : bv = .pointer (some ⟨b, 0, none⟩)) (hs : Sm w W.heap.size C D E X b sb M v L K0 R es A es' A') (hD : D ≤ w.heap.size) (hE : E = w.heap.size) (hq : BxQ w W.heap.size b sb M v K0 R es1 w') (ht : Tws es1 A1) (hn : ∀ e ∈ es1, ∀ q, Blk e q → (∃ e0 ∈ es, Blk e0 q) ∨ w.heap.size ≤ q) : LS W X K bv (.bool true) (.int .i64 K0) (.int .i64 R) L C D w'.heap.size (some (K0, R)) A1 A' n w' ∧ (∀ q, C ≤ q → q < D → w'.heap[q]? = w.heap[q]?) ∧ w.heap.size ≤ w'.heap.size := by
  obtain ⟨v', hs1, ho⟩ := hs.up h.cells.2.2.2.2 hD hE hq ht hn
  refine ⟨⟨h.offT ho fun q cs t hc ht' => hs.bx.sh.notType (ht'.no (by decide) (by decide) (by decide) (by decide) (by decide)) (ht'.no (by decide) (by decide) (by decide) (by decide) (by decide)) hc, ⟨rfl, rfl, rfl, b, sb, M, v', es1, es', hbv, hs1⟩, h.bel.trans (ho.below h.bel.size fun q hq => hs.bx.ft hq), h.lX, h.lK⟩, fun q h1 h2 => ho.block q (by omega) fun hf => ?_, ho.size⟩
  have := hs.hp q (Or.inr (Or.inl hf))
  omega
/-- Behind a call of the document's. -/
theorem LS.dn {K0 R : Int} {b sb M : Nat} {v : Value} {es es' es1 A1 : List Ent} (h : LS W X K bv (.bool true) (.int .i64 K0) (.int .i64 R) L C D E (some (K0, R)) A A' n w) (hbv : bv = .pointer (some ⟨b, 0, none⟩)) (hs : Sm w W.heap.size C D E X b sb M v L K0 R es A es' A') (hE : E ≤ w.heap.size) (hq : RBQ w W.heap.size X L K0 R es1 w') (ht : Tws es1 A1) (hn : ∀ e ∈ es1, ∀ q, Blk e q → (∃ e0 ∈ es', Blk e0 q) ∨ w.heap.size ≤ q) : ∃ L', LS W X K bv (.bool true) (.int .i64 K0) (.int .i64 R) L' C D E (some (K0, R)) A A1 n w' ∧ (∀ q, C ≤ q → q < E → w'.heap[q]? = w.heap[q]?) ∧ w.heap.size ≤ w'.heap.size := by
  obtain ⟨v0, v1, v4, v5, v6, v7, x0, x1, x4, x5, x6, x7, hX, hK, ⟨a0, a1, a2, a3, a4⟩, ⟨b0, b1, b2, b3, b4⟩, ⟨c0, c1, c2, c3, c4⟩⟩ := h.ex
  obtain ⟨L', hs1, hX1, ho⟩ := hs.dn hX hE hq ht hn
  have nT : ∀ {q : Nat} {cs : Array Value} {t : TypeId}, w.heap[q]? = some (.cells cs t (0, 0)) → t ≠ 55 → t ≠ 30 → ¬ (q = X ∨ L.ownBlock = some q) := fun {q cs t} hc h1 h2 => by
    rintro (g | g)
    · rw [g, hX] at hc
      simp only [Option.some.injEq, Obj.cells.injEq] at hc
      exact h1 hc.2.1.symm
    · obtain ⟨cs', hc'⟩ := row_type hs.row g
      rw [hc'] at hc
      simp only [Option.some.injEq, Obj.cells.injEq] at hc
      exact h2 hc.2.1.symm
  have key : ∀ {e : TypeId} {v : Value} {xs : List Sl}, e ≠ 55 → e ≠ 30 → ERow w W.heap.size e 1 encSl v xs → ERow w' W.heap.size e 1 encSl v xs := fun {e v xs} h1 h2 hr => ERow.off hr ho fun g hg => by
    obtain ⟨cs, hc⟩ := erow_type hr hg
    exact nT hc h1 h2
  refine ⟨L', ⟨⟨v0, v1, v4, v5, v6, v7, x0, x1, x4, x5, x6, x7, hX1, (ho.block K (blk_lt hK) (nT hK (by decide) (by decide))).trans hK, ⟨key (by decide) (by decide) a0, key (by decide) (by decide) a1, a2, a3, a4⟩, ⟨key (by decide) (by decide) b0, key (by decide) (by decide) b1, b2, b3, b4⟩, ⟨key (by decide) (by decide) c0, key (by decide) (by decide) c1, c2, c3, c4⟩⟩, ⟨rfl, rfl, rfl, b, sb, M, v, es, es1, hbv, hs1⟩, h.bel.trans (ho.below h.bel.size fun q hq => ?_), h.lX, h.lK⟩, fun q h1 h2 => ho.block q (by omega) fun hf => ?_, ho.size⟩
  · rcases hq with rfl | hq
    · exact h.lX
    · exact (ERow.lt hs.row hq).1
  · have := hs.hd q (hf.imp id fun g => Or.inl g)
    omega
theorem blk_snoc {es : List Ent} {x : Ent} {V z : World} {B : Nat} (hx : Own z B x) {e : Ent} (he : e ∈ es ++ [x]) {q : Nat} (hq : Blk e q) (hV : V.heap.size ≤ B) : (∃ e0 ∈ es, Blk e0 q) ∨ V.heap.size ≤ q := by
  rcases List.mem_append.1 he with g | g
  · exact Or.inl ⟨e, g, hq⟩
  · obtain rfl : e = x := by simpa using g
    exact Or.inr (Nat.le_trans hV (hx.blk hq).1)
theorem u_acc (h : LS W X K bv mk ke rm L C D E o A A' n w) (hD : D ≤ w.heap.size) (hE : E = w.heap.size) (e e0 : Ent) (he : Tw e e0) (hk : KeyS e.ct) (hl : Lies w e) : Calls Tryz.prog 54 #[bv, .agg #[.string e.ct, .slice e.tp e.tn e.tc, .int .i64 e.nu, .int .i64 e.tk, .slice e.cp e.cn e.cc, .string e.cd, .slice e.ap e.an e.ac]] w fun r w' => ∃ ev, r = .returned ev ∧ Hid (LS W X K bv mk ke rm L C D w'.heap.size o (accSo o A e0) A' n w' ∧ OEv w' w.heap.size ev 0 (accCo o A e0) ∧ (∀ q, C ≤ q → q < D → w'.heap[q]? = w.heap[q]?) ∧ w.heap.size ≤ w'.heap.size) := by
  rcases o with _ | ⟨K0, R⟩
  · obtain ⟨rfl, h2, h3, h4, h5, h6, h7⟩ := h.sd
    refine (accept_un (Or.inl rfl) e).mono fun r w' ⟨b, hr, hf⟩ => ⟨_, hr, ?_⟩
    obtain ⟨f1, f2, f3⟩ := hf.out
    have hb := h.below f3
    exact ⟨⟨hb.ex, ⟨rfl, h2, h3, h4, h5, h6, h7⟩, hb.bel, h.lX, h.lK⟩, Or.inr ⟨by show (3 : Int) ≠ 0; decide, b, rfl, f2, f1⟩, fun q _ h2 => f3.block q (by omega), f3.size⟩
  · obtain ⟨rfl, rfl, rfl, b, sb, M, v, es, es', hbv, hs⟩ := h.sd
    have hz : accC R es e = accC R A e0 := hs.t.acc_eq he
    by_cases h0 : accC R A e0 = 0
    · rw [hbv]
      refine (acc_yes2 hs.bx e hk hl (hz.trans h0)).mono fun r w' ⟨hr, hq⟩ => ⟨_, hr, ?_⟩
      obtain ⟨a, c, a', c', a'', c'', hb, hw⟩ := hq.out
      have ht : Tws (es ++ [e.wi a c a' c' a'' c'']) (accS R A e0) := by
        unfold accS
        rw [if_pos h0]
        exact hs.t.snoc (Tw.trans (Tw.symm ⟨a, c, a', c', a'', c'', rfl⟩) he)
      obtain ⟨g1, g2, g3⟩ := h.up hbv hs hD hE hb ht fun e hm q hq => blk_snoc hw hm hq (Nat.le_refl _)
      rw [hbv] at g1
      exact ⟨g1, Or.inl ⟨rfl, h0⟩, g2, g3⟩
    · rw [hbv]
      refine (acc_no hs.bx e hk hz h0).mono fun r w' ⟨ev, hr, hf, hle, hb⟩ => ⟨_, hr, ?_⟩
      have ht : Tws es (accS R A e0) := by
        unfold accS
        rw [if_neg h0]
        exact hs.t
      obtain ⟨g1, g2, g3⟩ := h.up hbv hs hD hE (hs.bx.same hb) ht fun e hm q hq => Or.inl ⟨e, hm, hq⟩
      rw [hbv] at g1
      exact ⟨g1, Or.inr ⟨h0, ev, rfl, hle, hf⟩, g2, g3⟩
theorem r_acc (h : LS W X K bv mk ke rm L C D E o A A' n w) (hE : E ≤ w.heap.size) (e e0 : Ent) (he : Tw e e0) (hl : Lies w e) : Calls Tryz.prog 55 #[.pointer (some ⟨X, 1, none⟩), .agg #[.string e.ct, .slice e.tp e.tn e.tc, .int .i64 e.nu, .int .i64 e.tk, .slice e.cp e.cn e.cc, .string e.cd, .slice e.ap e.an e.ac]] w fun r w' => r = .returned (.int .i64 (accCo o A' e0)) ∧ Hid (∃ L', LS W X K bv mk ke rm L' C D E o A (accSo o A' e0) n w' ∧ (∀ q, C ≤ q → q < E → w'.heap[q]? = w.heap[q]?) ∧ w.heap.size ≤ w'.heap.size) := by
  rcases o with _ | ⟨K0, R⟩
  · obtain ⟨h1, rfl, h3, h4, h5, h6, h7⟩ := h.sd
    refine (racc0 h.cells.2.1 e).mono fun r w' ⟨hr, hb⟩ => ⟨hr, L, ?_⟩
    have hb' := h.below hb
    exact ⟨⟨hb'.ex, ⟨h1, rfl, h3, h4, h5, h6, h7⟩, hb'.bel, h.lX, h.lK⟩, fun q _ h2 => hb.block q (by omega), hb.size⟩
  · obtain ⟨rfl, rfl, rfl, b, sb, M, v, es, es', hbv, hs⟩ := h.sd
    obtain ⟨v0, v1, v4, v5, v6, v7, x0, x1, x4, x5, x6, x7, hX, _⟩ := h.ex
    have hz : accC R es' e = accC R A' e0 := hs.t'.acc_eq he
    refine (racc_any (hs.rbx hX) ⟨_, _, _, hX, by decide, by decide⟩ h.bel.size e hl).mono fun r w' ⟨hr, hq⟩ => ⟨by rw [hr, hz]; rfl, ?_⟩
    rw [hz] at hq
    rcases hq.out with ⟨h0, hb⟩ | ⟨h0, a, c, a', c', a'', c'', hb, hw⟩
    · have ht : Tws es' (accS R A' e0) := by
        unfold accS
        rw [if_neg h0]
        exact hs.t'
      exact h.dn hbv hs hE ⟨L, (hs.rbx hX).below hb, Off.of_below hb, fun q hq => Or.inl hq, XK.of_off (P := fun _ => False) (Off.of_below hb) (fun hf => hf)⟩ ht fun e hm q hq => Or.inl ⟨e, hm, hq⟩
    · have ht : Tws (es' ++ [e.wi a c a' c' a'' c'']) (accS R A' e0) := by
        unfold accS
        rw [if_pos h0]
        exact hs.t'.snoc (Tw.trans (Tw.symm ⟨a, c, a', c', a'', c'', rfl⟩) he)
      exact h.dn hbv hs hE hb ht fun e hm q hq => blk_snoc hw hm hq (Nat.le_refl _)
end
end Go.Proofs.YtjbkfppibnlmoaaGreatDoor

/-
  Both boxes: Decide, whatever it answers.
-/
namespace Go.Proofs.YtjbkfppibnlmoaaGreatDoor
open Go.RowKit

theorem opB_vd {cd : ByteArray} (hv : vdB cd = true) (x : Ent) (p : Option Addr) (n c : Nat) (bs : List Int) : opB (x.vd cd p n c bs) = false := by
  show cd.toList.isEmpty = false
  unfold vdB at hv
  cases h : cd.toList with
  | nil => rw [h] at hv; simp at hv
  | cons _ _ => rfl
theorem blk_vd {es : List Ent} {i : Nat} {x : Ent} (hx : es[i]? = some x) {cd : ByteArray} {p : Option Addr} {n c : Nat} {bs : List Int} {K : Int} {V z : World} (hr : BRow z V.heap.size (.slice p n c) bs) {e : Ent} (he : e ∈ shedS K (es.set i (x.vd cd p n c bs))) {q : Nat} (hq : Blk e q) : (∃ e0 ∈ es, Blk e0 q) ∨ V.heap.size ≤ q := by
  rcases List.mem_or_eq_of_mem_set (mem_shed he) with g | rfl
  · exact Or.inl ⟨e, g, hq⟩
  · rcases hq with g | g | g
    · exact Or.inl ⟨x, List.mem_of_getElem? hx, Or.inl g⟩
    · exact Or.inl ⟨x, List.mem_of_getElem? hx, Or.inr (Or.inl g)⟩
    · exact Or.inr (ERow.lt hr g).1
section
variable {W w w' : World} {X K n C D E : Nat} {bv mk ke rm L : Value} {o : Option (Int × Int)} {A A' : List Ent}
theorem u_dec (h : LS W X K bv mk ke rm L C D E o A A' n w) (hD : D ≤ w.heap.size) (hE : E = w.heap.size) {s cd : ByteArray} {po : Option Addr} {m co : Nat} {bs : List Int} (hk : KeyS s) (hb : Byts w po m bs) (hm : m ≤ 9223372036854775807) : Calls Tryz.prog 56 #[bv, .string s, .string cd, .slice po m co] w fun r w' => ∃ a q k ev, r = .returned (.tuple #[.slice a q k, ev]) ∧ Hid (LS W X K bv mk ke rm L C D w'.heap.size o (dcSo o A s cd m bs) A' n w' ∧ OEv w' w.heap.size ev 0 (decCo o A s cd m) ∧ TRow w' w.heap.size (.slice a q k) (gnSo o A s cd m bs) ∧ (∀ q, C ≤ q → q < D → w'.heap[q]? = w.heap[q]?) ∧ w.heap.size ≤ w'.heap.size) := by
  rcases o with _ | ⟨K0, R⟩
  · obtain ⟨rfl, h2, h3, h4, h5, h6, h7⟩ := h.sd
    refine (decide_un (Or.inl rfl) s cd po m co).mono fun r w' ⟨hr, hf⟩ => ⟨none, 0, 0, _, hr, ?_⟩
    obtain ⟨f1, f3⟩ := hf.out
    have hb := h.below f3
    exact ⟨⟨hb.ex, ⟨rfl, h2, h3, h4, h5, h6, h7⟩, hb.bel, h.lX, h.lK⟩, Or.inr ⟨by show (3 : Int) ≠ 0; decide, _, rfl, Nat.le_refl _, f1⟩, ERow.nil _ _ _ _ _, fun q _ h2 => f3.block q (by omega), f3.size⟩
  · obtain ⟨rfl, rfl, rfl, b, sb, M, v, es, es', hbv, hs⟩ := h.sd
    have hz : decC es s cd m = decC A s cd m := hs.t.dec_eq
    by_cases h0 : decC A s cd m = 0
    · obtain ⟨hv, hn2, i, x, hf, hx, ho⟩ := decC_zero (hz.trans h0)
      obtain ⟨y, hy, hxy⟩ := hs.t.at_ hx
      have hfA : fi s A = some i := by rw [← hs.t.fi_eq]; exact hf
      have hgD : A.getD i zE = y := by rw [List.getD_eq_getElem?_getD, hy]; rfl
      rw [hbv]
      refine (dec_yes2 hs.bx hk hb hv hn2 hf hx ho).mono ?_
      rintro r w' ⟨u, hr, hq⟩
      obtain ⟨p, c, hT, hB, hR⟩ := hq.out
      have hts : Tws (es.set i (x.vd cd p m c bs)) (A.set i (y.vd cd none m 0 bs)) := hs.t.set (hxy.vd cd p m c bs none 0) i
      have e1 : dcS K0 A s cd m bs = shedS K0 (A.set i (y.vd cd none m 0 bs)) := by unfold dcS; rw [if_pos h0, hfA]; simp only [hgD]
      have e2 : gnS K0 A s cd m bs = goneS K0 (A.set i (y.vd cd none m 0 bs)) := by unfold gnS; rw [if_pos h0, hfA]; simp only [hgD]
      rw [hts.gone] at hT
      obtain ⟨a, k, e3, _⟩ := ERow.isSlice hT
      subst e3
      obtain ⟨g1, g2, g3⟩ := h.up hbv hs hD hE hB hts.shed fun e he q hq => blk_vd hx hR he hq
      rw [hbv] at g1
      show ∃ a q k ev, _ = Ending.returned (.tuple #[.slice a q k, ev]) ∧ Hid (LS W X K _ _ _ _ L C D w'.heap.size _ (dcS K0 A s cd m bs) A' n w' ∧ OEv w' w.heap.size ev 0 (decC A s cd m) ∧ TRow w' w.heap.size (.slice a q k) (gnS K0 A s cd m bs) ∧ _)
      rw [e1, e2]
      exact ⟨a, _, k, .nilIface, hr, g1, Or.inl ⟨rfl, h0⟩, hT, g2, g3⟩
    · rw [hbv]
      refine (dec_no hs.bx hk hm hz h0).mono ?_
      rintro r w' ⟨ev, hr, hf, hle, hb'⟩
      have e1 : dcS K0 A s cd m bs = A := by unfold dcS; rw [if_neg h0]
      have e2 : gnS K0 A s cd m bs = [] := by unfold gnS; rw [if_neg h0]
      obtain ⟨g1, g2, g3⟩ := h.up hbv hs hD hE (hs.bx.same hb') hs.t fun e he q hq => Or.inl ⟨e, he, hq⟩
      rw [hbv] at g1
      show ∃ a q k ev, _ = Ending.returned (.tuple #[.slice a q k, ev]) ∧ Hid (LS W X K _ _ _ _ L C D w'.heap.size _ (dcS K0 A s cd m bs) A' n w' ∧ OEv w' w.heap.size ev 0 (decC A s cd m) ∧ TRow w' w.heap.size (.slice a q k) (gnS K0 A s cd m bs) ∧ _)
      rw [e1, e2]
      exact ⟨none, 0, 0, _, hr, g1, Or.inr ⟨h0, ev, rfl, hle, hf⟩, ERow.nil _ _ _ _ _, g2, g3⟩
theorem many_tws {K : Int} {ls ms : List Ent} (h : Tws ls ms) : manyB K ls = manyB K ms := by unfold manyB; rw [h.dc_eq]
theorem r_dec (h : LS W X K bv mk ke rm L C D E o A A' n w) (hE : E ≤ w.heap.size) {s cd : ByteArray} {po : Option Addr} {m co : Nat} {bs : List Int} (hb : Byts w po m bs) (hpB : ∀ b of_, po = some ⟨b, of_, none⟩ → 0 < m → b < W.heap.size) : Calls Tryz.prog 57 #[.pointer (some ⟨X, 1, none⟩), .string s, .string cd, .slice po m co] w fun r w' => ∃ a q k, r = .returned (.tuple #[.slice a q k, .int .i64 (decCo o A' s cd m)]) ∧ Hid (∃ L', LS W X K bv mk ke rm L' C D E o A (dcSo o A' s cd m bs) n w' ∧ TRow w' w.heap.size (.slice a q k) (gnSo o A' s cd m bs) ∧ (∀ q, C ≤ q → q < E → w'.heap[q]? = w.heap[q]?) ∧ w.heap.size ≤ w'.heap.size) := by
  rcases o with _ | ⟨K0, R⟩
  · obtain ⟨h1, rfl, h3, h4, h5, h6, h7⟩ := h.sd
    refine (rdec0 h.cells.2.1 s cd po m co).mono fun r w' ⟨hr, hw⟩ => ⟨none, 0, 0, hr, L, ?_⟩
    subst hw
    exact ⟨⟨h.ex, ⟨h1, rfl, h3, h4, h5, h6, h7⟩, h.bel, h.lX, h.lK⟩, ERow.nil _ _ _ _ _, fun q _ h2 => rfl, Nat.le_refl _⟩
  · obtain ⟨rfl, rfl, rfl, b, sb, M, v, es, es', hbv, hs⟩ := h.sd
    obtain ⟨v0, v1, v4, v5, v6, v7, x0, x1, x4, x5, x6, x7, hX, _⟩ := h.ex
    have hrb := hs.rbx hX
    have hz : decC es' s cd m = decC A' s cd m := hs.t'.dec_eq
    show Calls _ _ _ _ fun r w' => ∃ a q k, r = .returned (.tuple #[.slice a q k, .int .i64 (decC A' s cd m)]) ∧ Hid (∃ L', LS W X K _ _ _ _ L' C D E _ A (dcS K0 A' s cd m bs) n w' ∧ TRow w' w.heap.size (.slice a q k) (gnS K0 A' s cd m bs) ∧ _)
    by_cases h0 : decC A' s cd m = 0
    · obtain ⟨hv, hn2, i, x, hf, hx, ho⟩ := decC_zero (hz.trans h0)
      obtain ⟨y, hy, hxy⟩ := hs.t'.at_ hx
      have hfA : fi s A' = some i := by rw [← hs.t'.fi_eq]; exact hf
      have hgD : A'.getD i zE = y := by rw [List.getD_eq_getElem?_getD, hy]; rfl
      have e1 : dcS K0 A' s cd m bs = shedS K0 (A'.set i (y.vd cd none m 0 bs)) := by unfold dcS; rw [if_pos h0, hfA]; simp only [hgD]
      have e2 : gnS K0 A' s cd m bs = goneS K0 (A'.set i (y.vd cd none m 0 bs)) := by unfold gnS; rw [if_pos h0, hfA]; simp only [hgD]
      have hT0 : Tws (es'.set i (x.vd cd none m 0 bs)) (A'.set i (y.vd cd none m 0 bs)) := hs.t'.set (hxy.vd cd none m 0 bs none 0) i
      have hTa : ∀ a k, Tws (es'.set i (x.vd cd a m k bs)) (es'.set i (x.vd cd none m 0 bs)) := fun a k => (Tws.refl es').set ((Tw.refl x).vd cd a m k bs none 0) i
      have hiv : ∀ a k, Inv K0 R (shedS K0 (es'.set i (x.vd cd a m k bs))) := fun a k => inv_shed hs.inv hx ho (opB_vd hv x a m k bs) rfl
      rw [e1, e2, h0]
      cases hmm : manyB K0 (es'.set i (x.vd cd none m 0 bs)) with
      | false =>
        have hm : ∀ a k, manyB K0 (es'.set i (x.vd cd a m k bs)) = false := fun a k => (many_tws (hTa a k)).trans hmm
        have hsd : ∀ a k, shedS K0 (es'.set i (x.vd cd a m k bs)) = es'.set i (x.vd cd a m k bs) := fun a k => by unfold shedS; rw [hm a k]; rfl
        have hgn : goneS K0 (A'.set i (y.vd cd none m 0 bs)) = [] := by rw [← hT0.gone]; unfold goneS; rw [hmm]; rfl
        refine (rdec_stay hrb ⟨_, _, _, hX, by decide, by decide⟩ h.bel.size s cd po m co bs hb hpB hv hn2 hf hx ho hm fun a k => by rw [← hsd a k]; exact hiv a k).mono ?_
        rintro r w' ⟨hr, hq⟩
        obtain ⟨a, k, hB, hR⟩ := hq.out
        have ht : Tws (es'.set i (x.vd cd a m k bs)) (shedS K0 (A'.set i (y.vd cd none m 0 bs))) := by
          rw [← hsd a k]
          exact ((hTa a k).trans hT0).shed
        obtain ⟨L', g1, g2, g3⟩ := h.dn hbv hs hE hB ht fun e he q hq => blk_vd (K := K0) hx hR (by rw [hsd a k]; exact he) hq
        exact ⟨none, 0, 0, hr, L', g1, by rw [hgn]; exact ERow.nil _ _ _ _ _, g2, g3⟩
      | true =>
        have hm : ∀ a k, manyB K0 (es'.set i (x.vd cd a m k bs)) = true := fun a k => (many_tws (hTa a k)).trans hmm
        obtain ⟨f, z, hfd, hzf, _⟩ := many_fd (by have := hs.inv.k1; omega) hmm
        have hgn : goneS K0 (A'.set i (y.vd cd none m 0 bs)) = [z.ct] := by
          rw [← hT0.gone]
          unfold goneS
          rw [hmm, hfd, if_pos rfl]
          simp only [List.getD_eq_getElem?_getD, hzf, Option.getD_some]
        refine (rdec_shed hrb ⟨_, _, _, hX, by decide, by decide⟩ h.bel.size s cd po m co bs hb hpB hv hn2 hf hx ho hm hiv (f := f) (y := z) fun a k => ?_).mono ?_
        · obtain ⟨z', h1, a1, c1, a2, c2, a3, c3, rfl⟩ := (hTa a k).symm.at_ hzf
          exact ⟨_, by rw [(hTa a k).fd_eq]; exact hfd, h1, rfl⟩
        · rintro r w' ⟨u, hr, hq⟩
          obtain ⟨hT, a, k, hB, hR⟩ := hq.out
          obtain ⟨a3, k3, e3, _⟩ := ERow.isSlice hT
          subst e3
          obtain ⟨L', g1, g2, g3⟩ := h.dn hbv hs hE hB ((hTa a k).trans hT0).shed fun e he q hq => blk_vd hx hR he hq
          exact ⟨a3, _, k3, hr, L', g1, by rw [hgn]; exact hT, g2, g3⟩
    · have e1 : dcS K0 A' s cd m bs = A' := by unfold dcS; rw [if_neg h0]
      have e2 : gnS K0 A' s cd m bs = [] := by unfold gnS; rw [if_neg h0]
      rw [e1, e2]
      refine (rdec_no hrb s cd po m co (by rw [hz]; exact h0)).mono ?_
      rintro r w' ⟨hr, hw⟩
      subst hw
      exact ⟨none, 0, 0, by rw [hr, hz], L, h, ERow.nil _ _ _ _ _, fun q _ _ => rfl, Nat.le_refl _⟩
end
end Go.Proofs.YtjbkfppibnlmoaaGreatDoor
