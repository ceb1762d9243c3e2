/-
  Decode.
-/
import Derived.Test.YtdjjologpodnkaaGreatDoorLdDec
namespace Go.Proofs.YtdjjologpodnkaaGreatDoor
open Go.RowKit

/-- What Decode answers, of no program. -/
def decR (bs : List Int) : Except Nat Rec :=
  match rdRec bs 0 zeroR 0 10 with
  | .error e => .error e
  | .ok (r, p) => if p < bs.length then .error p else .ok r
def DecQ (bs : List Int) (w : World) (e : Ending) (w' : World) : Prop :=
  (∃ (n : Nat) (b : Nat), decR bs = .error n ∧ e = .returned (.tuple #[.agg #[.int .i64 zeroR.kd, .string zeroR.ct, .slice zeroR.tp zeroR.tn zeroR.tc, .bool zeroR.e, .int .i64 zeroR.a, .int .i64 zeroR.p, .int .i64 zeroR.nu, .int .i64 zeroR.tk, .int .i64 zeroR.st, .string zeroR.cd, .slice zeroR.cp zeroR.cn zeroR.cc, .slice zeroR.ap zeroR.an zeroR.ac], .iface 74 (.pointer (some ⟨b, 0, none⟩))]) ∧ GFault w' b n 10 ∧ w.heap.size ≤ b ∧ Below w.heap.size w w') ∨
  (∃ r : Rec, decR bs = .ok r.bare ∧ e = .returned (.tuple #[.agg #[.int .i64 r.kd, .string r.ct, .slice r.tp r.tn r.tc, .bool r.e, .int .i64 r.a, .int .i64 r.p, .int .i64 r.nu, .int .i64 r.tk, .int .i64 r.st, .string r.cd, .slice r.cp r.cn r.cc, .slice r.ap r.an r.ac], .nilIface]) ∧ BRow w' w.heap.size (.slice r.tp r.tn r.tc) r.tx ∧ BRow w' w.heap.size (.slice r.cp r.cn r.cc) r.cx ∧ BRow w' w.heap.size (.slice r.ap r.an r.ac) r.ax ∧ Below w.heap.size w w')
set_option maxHeartbeats 1000000 in
theorem rec_put {w : World} {b : Nat} {r : Rec} (s : Rec) (h : Box w b (#[.int .i64 r.kd, .string r.ct, .slice r.tp r.tn r.tc, .bool r.e, .int .i64 r.a, .int .i64 r.p, .int .i64 r.nu, .int .i64 r.tk, .int .i64 r.st, .string r.cd, .slice r.cp r.cn r.cc, .slice r.ap r.an r.ac])) : Box ((((((((((((w.setCell ⟨b, 0, none⟩ (.int .i64 s.kd)).setCell ⟨b, 1, none⟩ (.string s.ct)).setCell ⟨b, 2, none⟩ (.slice s.tp s.tn s.tc)).setCell ⟨b, 3, none⟩ (.bool s.e)).setCell ⟨b, 4, none⟩ (.int .i64 s.a)).setCell ⟨b, 5, none⟩ (.int .i64 s.p)).setCell ⟨b, 6, none⟩ (.int .i64 s.nu)).setCell ⟨b, 7, none⟩ (.int .i64 s.tk)).setCell ⟨b, 8, none⟩ (.int .i64 s.st)).setCell ⟨b, 9, none⟩ (.string s.cd)).setCell ⟨b, 10, none⟩ (.slice s.cp s.cn s.cc)).setCell ⟨b, 11, none⟩ (.slice s.ap s.an s.ac)) b (#[.int .i64 s.kd, .string s.ct, .slice s.tp s.tn s.tc, .bool s.e, .int .i64 s.a, .int .i64 s.p, .int .i64 s.nu, .int .i64 s.tk, .int .i64 s.st, .string s.cd, .slice s.cp s.cn s.cc, .slice s.ap s.an s.ac]) ∧ Off (fun q => q = b) w ((((((((((((w.setCell ⟨b, 0, none⟩ (.int .i64 s.kd)).setCell ⟨b, 1, none⟩ (.string s.ct)).setCell ⟨b, 2, none⟩ (.slice s.tp s.tn s.tc)).setCell ⟨b, 3, none⟩ (.bool s.e)).setCell ⟨b, 4, none⟩ (.int .i64 s.a)).setCell ⟨b, 5, none⟩ (.int .i64 s.p)).setCell ⟨b, 6, none⟩ (.int .i64 s.nu)).setCell ⟨b, 7, none⟩ (.int .i64 s.tk)).setCell ⟨b, 8, none⟩ (.int .i64 s.st)).setCell ⟨b, 9, none⟩ (.string s.cd)).setCell ⟨b, 10, none⟩ (.slice s.cp s.cn s.cc)).setCell ⟨b, 11, none⟩ (.slice s.ap s.an s.ac)) := by
  refine ⟨?_, (Off.setCell (P := fun q => q = b) (p := ⟨b, 11, none⟩) (Off.setCell (P := fun q => q = b) (p := ⟨b, 10, none⟩) (Off.setCell (P := fun q => q = b) (p := ⟨b, 9, none⟩) (Off.setCell (P := fun q => q = b) (p := ⟨b, 8, none⟩) (Off.setCell (P := fun q => q = b) (p := ⟨b, 7, none⟩) (Off.setCell (P := fun q => q = b) (p := ⟨b, 6, none⟩) (Off.setCell (P := fun q => q = b) (p := ⟨b, 5, none⟩) (Off.setCell (P := fun q => q = b) (p := ⟨b, 4, none⟩) (Off.setCell (P := fun q => q = b) (p := ⟨b, 3, none⟩) (Off.setCell (P := fun q => q = b) (p := ⟨b, 2, none⟩) (Off.setCell (P := fun q => q = b) (p := ⟨b, 1, none⟩) (Off.setCell (P := fun q => q = b) (p := ⟨b, 0, none⟩) (Off.refl _ w) rfl _) rfl _) rfl _) rfl _) rfl _) rfl _) rfl _) rfl _) rfl _) rfl _) rfl _) rfl _)⟩
  have hb := ((((((((((((h.pPut (j := 0) (by simp) (.int .i64 s.kd)).pPut (j := 1) (by simp) (.string s.ct)).pPut (j := 2) (by simp) (.slice s.tp s.tn s.tc)).pPut (j := 3) (by simp) (.bool s.e)).pPut (j := 4) (by simp) (.int .i64 s.a)).pPut (j := 5) (by simp) (.int .i64 s.p)).pPut (j := 6) (by simp) (.int .i64 s.nu)).pPut (j := 7) (by simp) (.int .i64 s.tk)).pPut (j := 8) (by simp) (.int .i64 s.st)).pPut (j := 9) (by simp) (.string s.cd)).pPut (j := 10) (by simp) (.slice s.cp s.cn s.cc)).pPut (j := 11) (by simp) (.slice s.ap s.an s.ac))
  simp only [Array.set!_eq_setIfInBounds, List.setIfInBounds_toArray, List.set_cons_zero, List.set_cons_succ] at hb
  exact hb
theorem ret_fin {w2 Z : World} {rb eb : Nat} {r : Rec} {e0 : Value} (z1 : Box Z rb (#[.int .i64 r.kd, .string r.ct, .slice r.tp r.tn r.tc, .bool r.e, .int .i64 r.a, .int .i64 r.p, .int .i64 r.nu, .int .i64 r.tk, .int .i64 r.st, .string r.cd, .slice r.cp r.cn r.cc, .slice r.ap r.an r.ac])) (z2 : Off (fun q => q = rb) w2 Z) (he : Box w2 eb #[e0]) (hne : rb ≠ eb) :
    Hid (Box (Z.setCell ⟨eb, 0, none⟩ .nilIface) rb (#[.int .i64 r.kd, .string r.ct, .slice r.tp r.tn r.tc, .bool r.e, .int .i64 r.a, .int .i64 r.p, .int .i64 r.nu, .int .i64 r.tk, .int .i64 r.st, .string r.cd, .slice r.cp r.cn r.cc, .slice r.ap r.an r.ac]) ∧ Box (Z.setCell ⟨eb, 0, none⟩ .nilIface) eb #[.nilIface] ∧ Off (fun q => q = rb ∨ q = eb) w2 (Z.setCell ⟨eb, 0, none⟩ .nilIface)) :=
  ⟨z1.pOff (p := ⟨eb, 0, none⟩) (fun e => hne e.symm) _, (he.off z2 (fun e => hne e.symm)).pPut (j := 0) (by simp) .nilIface, Off.setCell (P := fun q => q = rb ∨ q = eb) (p := ⟨eb, 0, none⟩) (z2.mono fun _ g => Or.inl g) (Or.inr rfl) _⟩
set_option maxRecDepth 100000 in
set_option maxHeartbeats 4000000 in
theorem decode_any {w : World} {po : Option Addr} {c : Nat} {bs : List Int} (hb : Byts w po bs.length bs) (hn : bs.length ≤ c) (hl : po = none → c = 0) (hR : Rng bs) (hV : PVx w) (hm : bs.length ≤ 9223372036854775807) (hpl : ∀ x, po = some x → x.block < w.heap.size) :
    Calls Tryz.prog 12 #[.slice po bs.length c] w (DecQ bs w) := by
  have hmf : ∀ (fn : Fn) (first cap : Array Value) (w : World), (Instr.makeFunc fn first cap).run Tryz.prog w = .ok (.func fn first cap) w := fun _ _ _ _ => rfl
  have b1 : Below w.heap.size w (w.alloc (.cells (#[.int .i64 zeroR.kd, .string zeroR.ct, .slice zeroR.tp zeroR.tn zeroR.tc, .bool zeroR.e, .int .i64 zeroR.a, .int .i64 zeroR.p, .int .i64 zeroR.nu, .int .i64 zeroR.tk, .int .i64 zeroR.st, .string zeroR.cd, .slice zeroR.cp zeroR.cn zeroR.cc, .slice zeroR.ap zeroR.an zeroR.ac]) 26)) := (Below.refl _ _).alloc (Nat.le_refl _) _
  have b2 : Below w.heap.size w ((w.alloc (.cells (#[.int .i64 zeroR.kd, .string zeroR.ct, .slice zeroR.tp zeroR.tn zeroR.tc, .bool zeroR.e, .int .i64 zeroR.a, .int .i64 zeroR.p, .int .i64 zeroR.nu, .int .i64 zeroR.tk, .int .i64 zeroR.st, .string zeroR.cd, .slice zeroR.cp zeroR.cn zeroR.cc, .slice zeroR.ap zeroR.an zeroR.ac]) 26)).alloc (.cells #[.nilIface] 29)) := b1.alloc b1.size _
  have b3 : Below w.heap.size w (((w.alloc (.cells (#[.int .i64 zeroR.kd, .string zeroR.ct, .slice zeroR.tp zeroR.tn zeroR.tc, .bool zeroR.e, .int .i64 zeroR.a, .int .i64 zeroR.p, .int .i64 zeroR.nu, .int .i64 zeroR.tk, .int .i64 zeroR.st, .string zeroR.cd, .slice zeroR.cp zeroR.cn zeroR.cc, .slice zeroR.ap zeroR.an zeroR.ac]) 26)).alloc (.cells #[.nilIface] 29)).alloc (.cells #[.slice po bs.length c, .int .i64 0] 59)) := b2.alloc b2.size _
  have x1 := ((Box.new w (#[.int .i64 zeroR.kd, .string zeroR.ct, .slice zeroR.tp zeroR.tn zeroR.tc, .bool zeroR.e, .int .i64 zeroR.a, .int .i64 zeroR.p, .int .i64 zeroR.nu, .int .i64 zeroR.tk, .int .i64 zeroR.st, .string zeroR.cd, .slice zeroR.cp zeroR.cn zeroR.cc, .slice zeroR.ap zeroR.an zeroR.ac]) 26).alloc (.cells #[.nilIface] 29)).alloc (.cells #[.slice po bs.length c, .int .i64 0] 59)
  have x2 := (Box.new (w.alloc (.cells (#[.int .i64 zeroR.kd, .string zeroR.ct, .slice zeroR.tp zeroR.tn zeroR.tc, .bool zeroR.e, .int .i64 zeroR.a, .int .i64 zeroR.p, .int .i64 zeroR.nu, .int .i64 zeroR.tk, .int .i64 zeroR.st, .string zeroR.cd, .slice zeroR.cp zeroR.cn zeroR.cc, .slice zeroR.ap zeroR.an zeroR.ac]) 26)) #[.nilIface] 29).alloc (.cells #[.slice po bs.length c, .int .i64 0] 59)
  have x3 := Box.new ((w.alloc (.cells (#[.int .i64 zeroR.kd, .string zeroR.ct, .slice zeroR.tp zeroR.tn zeroR.tc, .bool zeroR.e, .int .i64 zeroR.a, .int .i64 zeroR.p, .int .i64 zeroR.nu, .int .i64 zeroR.tk, .int .i64 zeroR.st, .string zeroR.cd, .slice zeroR.cp zeroR.cn zeroR.cc, .slice zeroR.ap zeroR.an zeroR.ac]) 26)).alloc (.cells #[.nilIface] 29)) #[.slice po bs.length c, .int .i64 0] 59
  simp only [World.size_alloc] at x2 x3
  have hgl : 1 < w.heap.size := by obtain ⟨s, hs⟩ := hV 0 (by omega); exact cell_lt hs
  have hsz : (((w.alloc (.cells (#[.int .i64 zeroR.kd, .string zeroR.ct, .slice zeroR.tp zeroR.tn zeroR.tc, .bool zeroR.e, .int .i64 zeroR.a, .int .i64 zeroR.p, .int .i64 zeroR.nu, .int .i64 zeroR.tk, .int .i64 zeroR.st, .string zeroR.cd, .slice zeroR.cp zeroR.cn zeroR.cc, .slice zeroR.ap zeroR.an zeroR.ac]) 26)).alloc (.cells #[.nilIface] 29)).alloc (.cells #[.slice po bs.length c, .int .i64 0] 59)).heap.size = w.heap.size + 1 + 1 + 1 := by simp only [World.size_alloc]
  have hI : RdI (((w.alloc (.cells (#[.int .i64 zeroR.kd, .string zeroR.ct, .slice zeroR.tp zeroR.tn zeroR.tc, .bool zeroR.e, .int .i64 zeroR.a, .int .i64 zeroR.p, .int .i64 zeroR.nu, .int .i64 zeroR.tk, .int .i64 zeroR.st, .string zeroR.cd, .slice zeroR.cp zeroR.cn zeroR.cc, .slice zeroR.ap zeroR.an zeroR.ac]) 26)).alloc (.cells #[.nilIface] 29)).alloc (.cells #[.slice po bs.length c, .int .i64 0] 59)) (w.heap.size + 1 + 1 + 1) (w.heap.size + 1 + 1) w.heap.size po c bs 0 zeroR :=
    ⟨⟨x3, hb.below b3, Nat.zero_le _, hn, hl, fun x hx => by have := hpl x hx; omega, hm, hR⟩, x1, ERow.nil _ _ _ _ _, ERow.nil _ _ _ _ _, ERow.nil _ _ _ _ _, by omega, by omega, by omega, by rw [hsz]; exact Nat.le_refl _, fun x hx => by have := hpl x hx; omega, hV.below b3, by omega, by omega⟩
  have hp := rpassRecord_any hI
  have HX : Hid (Below w.heap.size w (((w.alloc (.cells (#[.int .i64 zeroR.kd, .string zeroR.ct, .slice zeroR.tp zeroR.tn zeroR.tc, .bool zeroR.e, .int .i64 zeroR.a, .int .i64 zeroR.p, .int .i64 zeroR.nu, .int .i64 zeroR.tk, .int .i64 zeroR.st, .string zeroR.cd, .slice zeroR.cp zeroR.cn zeroR.cc, .slice zeroR.ap zeroR.an zeroR.ac]) 26)).alloc (.cells #[.nilIface] 29)).alloc (.cells #[.slice po bs.length c, .int .i64 0] 59)) ∧ Box (((w.alloc (.cells (#[.int .i64 zeroR.kd, .string zeroR.ct, .slice zeroR.tp zeroR.tn zeroR.tc, .bool zeroR.e, .int .i64 zeroR.a, .int .i64 zeroR.p, .int .i64 zeroR.nu, .int .i64 zeroR.tk, .int .i64 zeroR.st, .string zeroR.cd, .slice zeroR.cp zeroR.cn zeroR.cc, .slice zeroR.ap zeroR.an zeroR.ac]) 26)).alloc (.cells #[.nilIface] 29)).alloc (.cells #[.slice po bs.length c, .int .i64 0] 59)) (w.heap.size + 1) #[.nilIface]) := ⟨b3, x2⟩
  clear b1 b2 b3 x1 x2 x3 hsz hI hgl hb hn hl hR hV hm hpl
  go_enter_defers Tryz.func12, Tryz.ntmps12
  go_wp2_with fail
  generalize (((w.alloc (.cells (#[.int .i64 zeroR.kd, .string zeroR.ct, .slice zeroR.tp zeroR.tn zeroR.tc, .bool zeroR.e, .int .i64 zeroR.a, .int .i64 zeroR.p, .int .i64 zeroR.nu, .int .i64 zeroR.tk, .int .i64 zeroR.st, .string zeroR.cd, .slice zeroR.cp zeroR.cn zeroR.cc, .slice zeroR.ap zeroR.an zeroR.ac]) 26)).alloc (.cells #[.nilIface] 29)).alloc (.cells #[.slice po bs.length c, .int .i64 0] 59)) = V at hp HX ⊢
  refine hp.mono ?_
  clear hp
  rintro _ z (⟨n, rfl, H⟩ | ⟨rfl, H⟩)
  · obtain ⟨m, rfl, hd, ho, r', hbx⟩ := H.out
    have hbe := HX.out.2.off ho (by omega)
    have HD : Hid (decR bs = .error m) := by unfold Hid decR; rw [show zeroR = zeroR.bare from rfl, hd]
    have HO : Hid (Below w.heap.size w z) := HX.out.1.trans (ho.below HX.out.1.size (fun k hk => by omega))
    clear H hd ho HX
    change bodyPostD Tryz.prog Tryz.f12 (DecQ bs w) (Exit.panic _) _ _
    refine leaves_cons (f := 24) (args := #[.pointer (some ⟨w.heap.size, 0, none⟩), .pointer (some ⟨w.heap.size + 1, 0, none⟩)]) (by simp) (by simp [go_sem]) ?_
    refine (catch_panicking _ _ hbx hbe (by omega)).mono ?_
    rintro e u' w'' ⟨rfl, rfl, HQ⟩
    obtain ⟨b, hb1, hbr, hbe2, hg, hoff⟩ := HQ.out
    have c1 := hbr.cell
    have c2 := hbe2.cell
    simp [Leaves, settle, results, Tryz.results12, go_sem, c1, c2]
    exact Or.inl ⟨m, b, HD.out, rfl, hg, Nat.le_trans HO.out.size hb1, HO.out.trans (hoff.below HO.out.size (fun k hk => by omega))⟩
  · obtain ⟨r', p', hd, hI, ho⟩ := H.out
    have hx2 := HX.out.2.off ho (by omega)
    have he := end_any hI.rdr
    have HO : Hid (Below w.heap.size w z) := HX.out.1.trans (ho.below HX.out.1.size (fun k hk => by omega))
    have HH : Hid (rdRec bs 0 zeroR 0 10 = .ok (r'.bare, p') ∧ RdI z (w.heap.size + 1 + 1 + 1) (w.heap.size + 1 + 1) w.heap.size po c bs p' r' ∧ Box z (w.heap.size + 1) #[.nilIface]) := ⟨hd, hI, hx2⟩
    clear H hd hI ho HX hx2
    go_wp2_with fail
    refine he.mono ?_
    clear he
    rintro _ z2 (⟨n, rfl, H2⟩ | ⟨rfl, H2⟩)
    · obtain ⟨rfl, hlt, hb2⟩ := H2.out
      have HD : Hid (decR bs = .error p') := by unfold Hid decR; rw [HH.out.1]; exact if_pos hlt
      have hbx := HH.out.2.1.box.below hb2
      have hbe := HH.out.2.2.below hb2
      have HO2 : Hid (Below w.heap.size w z2) := below_then HO.out hb2
      clear HO H2 HH hlt hb2
      change bodyPostD Tryz.prog Tryz.f12 (DecQ bs w) (Exit.panic _) _ _
      refine leaves_cons (f := 24) (args := #[.pointer (some ⟨w.heap.size, 0, none⟩), .pointer (some ⟨w.heap.size + 1, 0, none⟩)]) (by simp) (by simp [go_sem]) ?_
      refine (catch_panicking _ _ hbx hbe (by omega)).mono ?_
      rintro e u' w'' ⟨rfl, rfl, HQ⟩
      obtain ⟨b, hb1, hbr, hbe2, hg, hoff⟩ := HQ.out
      have c1 := hbr.cell
      have c2 := hbe2.cell
      simp [Leaves, settle, results, Tryz.results12, go_sem, c1, c2]
      exact Or.inl ⟨p', b, HD.out, rfl, hg, Nat.le_trans HO2.out.size hb1, HO2.out.trans (hoff.below HO2.out.size (fun k hk => by omega))⟩
    · have c1 := (HH.out.2.1.box.below H2.out.2).cell
      have f1 := (HH.out.2.1.box.below H2.out.2).free
      have c2 := (HH.out.2.2.below H2.out.2).cell
      have f2 := (HH.out.2.2.below H2.out.2).free
      obtain ⟨z3, o3⟩ := rec_put r' (HH.out.2.1.box.below H2.out.2)
      have HF := ret_fin z3 o3 (HH.out.2.2.below H2.out.2) (by omega)
      clear z3 o3
      have HK : Hid (∀ q, Off (fun k => k = w.heap.size ∨ k = w.heap.size + 1) z2 q → DecQ bs w (.returned (.tuple #[.agg #[.int .i64 r'.kd, .string r'.ct, .slice r'.tp r'.tn r'.tc, .bool r'.e, .int .i64 r'.a, .int .i64 r'.p, .int .i64 r'.nu, .int .i64 r'.tk, .int .i64 r'.st, .string r'.cd, .slice r'.cp r'.cn r'.cc, .slice r'.ap r'.an r'.ac], .nilIface])) q) := fun q hq => by
        have I2 := HH.out.2.1.below H2.out.2
        have row : ∀ v xs, BRow z2 (w.heap.size + 1 + 1 + 1) v xs → BRow q w.heap.size v xs := fun v xs hv => ERow.base (ERow.off hv hq fun g hg e => by have h1 := (ERow.lt hv hg).1; omega) (by omega)
        refine Or.inr ⟨r', ?_, rfl, row _ _ I2.lt, row _ _ I2.lc, row _ _ I2.la, (below_then HO.out H2.out.2).trans (hq.below (below_then HO.out H2.out.2).size (fun k hk => by omega))⟩
        unfold decR
        rw [HH.out.1]
        exact if_neg (by have := H2.out.1; omega)
      clear HH H2 HO
      go_wp2_with fail
      refine leaves_cons (f := 24) (args := #[.pointer (some ⟨w.heap.size, 0, none⟩), .pointer (some ⟨w.heap.size + 1, 0, none⟩)]) (by simp) (by simp [go_sem]) ?_
      refine (catch_idle _ _ _).mono ?_
      rintro e u' w'' ⟨rfl, rfl, hw⟩
      rw [← hw] at HF
      have c3 := HF.out.1.cell
      have c4 := HF.out.2.1.cell
      clear c1 c2 f1 f2 hw
      simp [Leaves, settle, results, Tryz.results12, go_sem, c3, c4]
      exact HK.out _ HF.out.2.2
end Go.Proofs.YtdjjologpodnkaaGreatDoor
