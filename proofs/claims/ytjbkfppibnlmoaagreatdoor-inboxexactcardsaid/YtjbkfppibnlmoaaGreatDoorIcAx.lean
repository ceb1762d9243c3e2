import Derived.Test.YtjbkfppibnlmoaaGreatDoorIcHd
import Derived.Test.YtjbkfppibnlmoaaGreatDoorIbOpn
/-
  An entry that is handed in, with its marks; kept; turned.
-/
namespace Go.Proofs.YtjbkfppibnlmoaaGreatDoor
open Go.RowKit

/-- An entry's three lists as they were handed in. -/
structure Hd (w : World) (B g1 g2 g3 : Nat) (e : Ent) : Prop where
  t : Mkd w B g1 e.tn e.tx
  c : Mkd w B g2 e.cn e.cx
  a : Mkd w B g3 e.an e.ax
  n1 : g1 < g2
  n2 : g2 < g3
/-- It, there. -/
abbrev Ent.hd (e : Ent) (g1 g2 g3 : Nat) : Ent := e.wi (some ⟨g1, 0, none⟩) (e.tn + 90) (some ⟨g2, 0, none⟩) (e.cn + 90) (some ⟨g3, 0, none⟩) (e.an + 90)
section
variable {w w' : World} {B g1 g2 g3 : Nat} {e : Ent}
theorem Hd.below (h : Hd w B g1 g2 g3 e) (hb : Below w.heap.size w w') : Hd w' B g1 g2 g3 e := ⟨h.t.below hb, h.c.below hb, h.a.below hb, h.n1, h.n2⟩
theorem Hd.keep (h : Hd w B g1 g2 g3 e) (hk : ∀ q, B ≤ q → q < w.heap.size → w'.heap[q]? = w.heap[q]?) : Hd w' B g1 g2 g3 e := ⟨h.t.keep (hk _ h.t.lt.1 h.t.lt.2), h.c.keep (hk _ h.c.lt.1 h.c.lt.2), h.a.keep (hk _ h.a.lt.1 h.a.lt.2), h.n1, h.n2⟩
theorem Hd.lies (h : Hd w B g1 g2 g3 e) : Lies w (e.hd g1 g2 g3) := ⟨h.t.byts, h.c.byts, h.a.byts⟩
end
theorem hand_full {po : Option Addr} {m c : Nat} {bs : List Int} (w : World) (hb : Byts w po m bs) (hm : m + 90 ≤ 140737488355328) : Calls Tryz.prog 38 #[.slice po m c] w fun e w' => ∃ g, e = .returned (.slice (some ⟨g, 0, none⟩) m (m + 90)) ∧ Mkd w' w.heap.size g m bs ∧ Below w.heap.size w w' :=
  (Hand_any w hb hm).mono fun _ _ ⟨h1, h2, h3⟩ => ⟨_, h1, ⟨h2, hb.len⟩, h3⟩
theorem Mkd.off {P : Nat → Prop} {w w' : World} {B g n : Nat} {bs : List Int} (h : Mkd w B g n bs) (o : Off P w w') (hP : ¬ P g) : Mkd w' B g n bs := h.keep (o.block g h.lt.2 hP)
theorem Mkd.base {w : World} {B C g n : Nat} {bs : List Int} (h : Mkd w B g n bs) (hC : C ≤ B) : Mkd w C g n bs := ⟨ERow.base h.1 hC, h.2⟩
set_option maxRecDepth 100000 in
set_option maxHeartbeats 4000000 in
theorem handed_full (e : Ent) (w : World) (hl : Lies w e) (h1 : e.tn + 90 ≤ 140737488355328) (h2 : e.cn + 90 ≤ 140737488355328) (h3 : e.an + 90 ≤ 140737488355328) :
    Calls Tryz.prog 14 #[.agg #[.string e.ct, .slice e.tp e.tn e.tc, .int .i64 e.nu, .int .i64 e.tk, .slice e.cp e.cn e.cc, .string e.cd, .slice e.ap e.an e.ac]] w fun r w' => ∃ g1 g2 g3, r = .returned (.agg #[.string e.ct, .slice (some ⟨g1, 0, none⟩) e.tn (e.tn + 90), .int .i64 e.nu, .int .i64 e.tk, .slice (some ⟨g2, 0, none⟩) e.cn (e.cn + 90), .string e.cd, .slice (some ⟨g3, 0, none⟩) e.an (e.an + 90)]) ∧ Hd w' w.heap.size g1 g2 g3 e ∧ Below w.heap.size w w' := by
  have bv : Below w.heap.size w ((w.alloc (.cells #[.string e.ct, .slice e.tp e.tn e.tc, .int .i64 e.nu, .int .i64 e.tk, .slice e.cp e.cn e.cc, .string e.cd, .slice e.ap e.an e.ac] 30)).alloc (.cells #[.string ⟨#[]⟩, .slice none 0 0, .int .i64 0, .int .i64 0, .slice none 0 0, .string ⟨#[]⟩, .slice none 0 0] 30)) := ((Below.refl _ _).alloc (Nat.le_refl _) _).alloc (by simp) _
  have bx := (Box.new w #[.string e.ct, .slice e.tp e.tn e.tc, .int .i64 e.nu, .int .i64 e.tk, .slice e.cp e.cn e.cc, .string e.cd, .slice e.ap e.an e.ac] 30).alloc (.cells #[.string ⟨#[]⟩, .slice none 0 0, .int .i64 0, .int .i64 0, .slice none 0 0, .string ⟨#[]⟩, .slice none 0 0] 30)
  have by_ := Box.new (w.alloc (.cells #[.string e.ct, .slice e.tp e.tn e.tc, .int .i64 e.nu, .int .i64 e.tk, .slice e.cp e.cn e.cc, .string e.cd, .slice e.ap e.an e.ac] 30)) #[.string ⟨#[]⟩, .slice none 0 0, .int .i64 0, .int .i64 0, .slice none 0 0, .string ⟨#[]⟩, .slice none 0 0] 30
  rw [World.size_alloc] at by_
  obtain ⟨V, hV⟩ : ∃ V, ((w.alloc (.cells #[.string e.ct, .slice e.tp e.tn e.tc, .int .i64 e.nu, .int .i64 e.tk, .slice e.cp e.cn e.cc, .string e.cd, .slice e.ap e.an e.ac] 30)).alloc (.cells #[.string ⟨#[]⟩, .slice none 0 0, .int .i64 0, .int .i64 0, .slice none 0 0, .string ⟨#[]⟩, .slice none 0 0] 30)) = V := ⟨_, rfl⟩
  have HZ : Hid (V.heap.size = w.heap.size + 1 + 1) := by unfold Hid; rw [← hV]; simp
  rw [hV] at bx by_ bv
  obtain ⟨xb, hxb⟩ : ∃ xb, w.heap.size = xb := ⟨_, rfl⟩
  have HXB : Hid (w.heap.size = xb) := hxb
  have HB0 : Hid (Below w.heap.size w V) := bv
  have HX : Hid (Box V xb #[.string e.ct, .slice e.tp e.tn e.tc, .int .i64 e.nu, .int .i64 e.tk, .slice e.cp e.cn e.cc, .string e.cd, .slice e.ap e.an e.ac] ∧ Box V (xb + 1) #[.string ⟨#[]⟩, .slice none 0 0, .int .i64 0, .int .i64 0, .slice none 0 0, .string ⟨#[]⟩, .slice none 0 0]) := by rw [← hxb]; exact ⟨bx, by_⟩
  have HL : Hid (Lies w e) := hl
  have HN : Hid (e.tn + 90 ≤ 140737488355328 ∧ e.cn + 90 ≤ 140737488355328 ∧ e.an + 90 ≤ 140737488355328) := ⟨h1, h2, h3⟩
  have hd1 := hand_full (c := e.tc) V (hl.below bv).t h1
  have cx := HX.out.1.cell
  clear bv bx by_ hl h1 h2 h3
  go_enter Tryz.func14, Tryz.ntmps14
  go_wp2_with fail
  clear hV
  refine hd1.mono ?_
  rintro _ w1 ⟨g1, rfl, r1, b1⟩
  have HW1 : Hid (Box (w1.setCell ⟨xb, 1, none⟩ (.slice (some ⟨g1, 0, none⟩) e.tn (e.tn + 90))) xb #[.string e.ct, .slice (some ⟨g1, 0, none⟩) e.tn (e.tn + 90), .int .i64 e.nu, .int .i64 e.tk, .slice e.cp e.cn e.cc, .string e.cd, .slice e.ap e.an e.ac] ∧ Box (w1.setCell ⟨xb, 1, none⟩ (.slice (some ⟨g1, 0, none⟩) e.tn (e.tn + 90))) (xb + 1) #[.string ⟨#[]⟩, .slice none 0 0, .int .i64 0, .int .i64 0, .slice none 0 0, .string ⟨#[]⟩, .slice none 0 0] ∧ Below w.heap.size w (w1.setCell ⟨xb, 1, none⟩ (.slice (some ⟨g1, 0, none⟩) e.tn (e.tn + 90))) ∧ Mkd (w1.setCell ⟨xb, 1, none⟩ (.slice (some ⟨g1, 0, none⟩) e.tn (e.tn + 90))) (xb + 2) g1 e.tn e.tx) := by
    have o1 : Off (fun q => q = xb) w1 (w1.setCell ⟨xb, 1, none⟩ (.slice (some ⟨g1, 0, none⟩) e.tn (e.tn + 90))) := Off.setCell (P := fun q => q = xb) (Off.refl _ _) (p := ⟨xb, 1, none⟩) rfl _
    have hz := HZ.out
    have hxx := HXB.out
    exact ⟨(HX.out.1.below b1).pPut (j := 1) (by simp) _, (HX.out.2.below b1).pOff (p := ⟨xb, 1, none⟩) (by simp) _, (below_then HB0.out b1).trans (o1.below (Nat.le_trans HB0.out.size b1.size) fun q hq => by omega), (r1.off o1 (by have := r1.lt.1; omega)).base (by omega)⟩
  have c1 := (HX.out.1.below b1).cell
  have f1 := (HX.out.1.below b1).free
  obtain ⟨W1, hW1⟩ : ∃ W1, w1.setCell ⟨xb, 1, none⟩ (.slice (some ⟨g1, 0, none⟩) e.tn (e.tn + 90)) = W1 := ⟨_, rfl⟩
  rw [hW1] at HW1
  have hd2 := hand_full (c := e.cc) W1 (HL.out.below HW1.out.2.2.1).c HN.out.2.1
  have cx1 := HW1.out.1.cell
  clear hd1 r1 b1 cx HX
  go_wp2_with fail
  clear hW1 c1 f1
  refine hd2.mono ?_
  rintro _ w2 ⟨g2, rfl, r2, b2⟩
  have HW2 : Hid (Box (w2.setCell ⟨xb, 4, none⟩ (.slice (some ⟨g2, 0, none⟩) e.cn (e.cn + 90))) xb #[.string e.ct, .slice (some ⟨g1, 0, none⟩) e.tn (e.tn + 90), .int .i64 e.nu, .int .i64 e.tk, .slice (some ⟨g2, 0, none⟩) e.cn (e.cn + 90), .string e.cd, .slice e.ap e.an e.ac] ∧ Box (w2.setCell ⟨xb, 4, none⟩ (.slice (some ⟨g2, 0, none⟩) e.cn (e.cn + 90))) (xb + 1) #[.string ⟨#[]⟩, .slice none 0 0, .int .i64 0, .int .i64 0, .slice none 0 0, .string ⟨#[]⟩, .slice none 0 0] ∧ Below w.heap.size w (w2.setCell ⟨xb, 4, none⟩ (.slice (some ⟨g2, 0, none⟩) e.cn (e.cn + 90))) ∧ Mkd (w2.setCell ⟨xb, 4, none⟩ (.slice (some ⟨g2, 0, none⟩) e.cn (e.cn + 90))) (xb + 2) g1 e.tn e.tx ∧ Mkd (w2.setCell ⟨xb, 4, none⟩ (.slice (some ⟨g2, 0, none⟩) e.cn (e.cn + 90))) (xb + 2) g2 e.cn e.cx ∧ g1 < g2) := by
    have o1 : Off (fun q => q = xb) w2 (w2.setCell ⟨xb, 4, none⟩ (.slice (some ⟨g2, 0, none⟩) e.cn (e.cn + 90))) := Off.setCell (P := fun q => q = xb) (Off.refl _ _) (p := ⟨xb, 4, none⟩) rfl _
    have hxx := HXB.out
    have hs : xb + 2 ≤ W1.heap.size := by have := HW1.out.2.1.lt; omega
    have t1 := HW1.out.2.2.2.below b2
    have l1 := HW1.out.2.2.2.lt.2
    exact ⟨(HW1.out.1.below b2).pPut (j := 4) (by simp) _, (HW1.out.2.1.below b2).pOff (p := ⟨xb, 4, none⟩) (by simp) _, (below_then HW1.out.2.2.1 b2).trans (o1.below (Nat.le_trans HW1.out.2.2.1.size b2.size) fun q hq => by omega), t1.off o1 (by have := t1.lt.1; omega), (r2.off o1 (by have := r2.lt.1; omega)).base hs, by have := r2.lt.1; omega⟩
  have c2 := (HW1.out.1.below b2).cell
  have f2 := (HW1.out.1.below b2).free
  obtain ⟨W2, hW2⟩ : ∃ W2, w2.setCell ⟨xb, 4, none⟩ (.slice (some ⟨g2, 0, none⟩) e.cn (e.cn + 90)) = W2 := ⟨_, rfl⟩
  rw [hW2] at HW2
  have hd3 := hand_full (c := e.ac) W2 (HL.out.below HW2.out.2.2.1).a HN.out.2.2
  have cx2 := HW2.out.1.cell
  clear hd2 r2 b2 cx1 HW1
  go_wp2_with fail
  clear hW2 c2 f2
  refine hd3.mono ?_
  rintro _ w3 ⟨g3, rfl, r3, b3⟩
  have HE : Hid (∀ W', Off (fun q => q = xb ∨ q = xb + 1) w3 W' → Hd W' w.heap.size g1 g2 g3 e ∧ Below w.heap.size w W') := fun W' ho => by
    have hxx := HXB.out
    have hs : xb + 2 ≤ W2.heap.size := by have := HW2.out.2.1.lt; omega
    have key : ∀ {g n : Nat} {bs : List Int}, Mkd w3 (xb + 2) g n bs → Mkd W' w.heap.size g n bs := fun hr => (hr.off ho (by have := hr.lt.1; omega)).base (by omega)
    have l2 := HW2.out.2.2.2.2.1.lt.2
    exact ⟨⟨key (HW2.out.2.2.2.1.below b3), key (HW2.out.2.2.2.2.1.below b3), key (r3.base hs), HW2.out.2.2.2.2.2, by have := r3.lt.1; omega⟩, (below_then HW2.out.2.2.1 b3).trans (ho.below (Nat.le_trans HW2.out.2.2.1.size b3.size) fun k hk => by omega)⟩
  have c3 := (HW2.out.1.below b3).cell
  have f3 := (HW2.out.1.below b3).free
  have c4 := (HW2.out.2.1.below b3).cell
  have f4 := (HW2.out.2.1.below b3).free
  clear hd3 r3 b3 cx2 HW2
  go_wp2_with fail
  refine bodyPost_ret ?_ rfl ⟨g1, g2, g3, rfl, HE.out _ ?_⟩
  · simp [results, Tryz.results14, go_sem, c4]
  · iterate 8 (refine Off.setCell ?_ (by first | exact Or.inl rfl | exact Or.inr rfl) _)
    exact Off.refl _ _
section
variable {w w' : World} {B g1 g2 g3 : Nat}
set_option maxRecDepth 100000 in
set_option maxHeartbeats 4000000 in
theorem kept_any (e : Ent) (h1 : Hd w B g1 g2 g3 e) (h2 : Lies w e) (n1 : e.tn + 90 ≤ 140737488355328) (n2 : e.cn + 90 ≤ 140737488355328) (n3 : e.an + 90 ≤ 140737488355328) :
    Calls Tryz.prog 18 #[.agg #[.string e.ct, .slice (some ⟨g1, 0, none⟩) e.tn (e.tn + 90), .int .i64 e.nu, .int .i64 e.tk, .slice (some ⟨g2, 0, none⟩) e.cn (e.cn + 90), .string e.cd, .slice (some ⟨g3, 0, none⟩) e.an (e.an + 90)], .agg #[.string e.ct, .slice e.tp e.tn e.tc, .int .i64 e.nu, .int .i64 e.tk, .slice e.cp e.cn e.cc, .string e.cd, .slice e.ap e.an e.ac]] w fun r w' => r = .returned (.bool true) ∧ Below w.heap.size w w' := by
  have bv : Below w.heap.size w ((w.alloc (.cells #[.string e.ct, .slice (some ⟨g1, 0, none⟩) e.tn (e.tn + 90), .int .i64 e.nu, .int .i64 e.tk, .slice (some ⟨g2, 0, none⟩) e.cn (e.cn + 90), .string e.cd, .slice (some ⟨g3, 0, none⟩) e.an (e.an + 90)] 30)).alloc (.cells #[.string e.ct, .slice e.tp e.tn e.tc, .int .i64 e.nu, .int .i64 e.tk, .slice e.cp e.cn e.cc, .string e.cd, .slice e.ap e.an e.ac] 30)) := ((Below.refl _ _).alloc (Nat.le_refl _) _).alloc (by simp) _
  have bx := (Box.new w #[.string e.ct, .slice (some ⟨g1, 0, none⟩) e.tn (e.tn + 90), .int .i64 e.nu, .int .i64 e.tk, .slice (some ⟨g2, 0, none⟩) e.cn (e.cn + 90), .string e.cd, .slice (some ⟨g3, 0, none⟩) e.an (e.an + 90)] 30).alloc (.cells #[.string e.ct, .slice e.tp e.tn e.tc, .int .i64 e.nu, .int .i64 e.tk, .slice e.cp e.cn e.cc, .string e.cd, .slice e.ap e.an e.ac] 30)
  have by_ := Box.new (w.alloc (.cells #[.string e.ct, .slice (some ⟨g1, 0, none⟩) e.tn (e.tn + 90), .int .i64 e.nu, .int .i64 e.tk, .slice (some ⟨g2, 0, none⟩) e.cn (e.cn + 90), .string e.cd, .slice (some ⟨g3, 0, none⟩) e.an (e.an + 90)] 30)) #[.string e.ct, .slice e.tp e.tn e.tc, .int .i64 e.nu, .int .i64 e.tk, .slice e.cp e.cn e.cc, .string e.cd, .slice e.ap e.an e.ac] 30
  rw [World.size_alloc] at by_
  obtain ⟨V, hV⟩ : ∃ V, ((w.alloc (.cells #[.string e.ct, .slice (some ⟨g1, 0, none⟩) e.tn (e.tn + 90), .int .i64 e.nu, .int .i64 e.tk, .slice (some ⟨g2, 0, none⟩) e.cn (e.cn + 90), .string e.cd, .slice (some ⟨g3, 0, none⟩) e.an (e.an + 90)] 30)).alloc (.cells #[.string e.ct, .slice e.tp e.tn e.tc, .int .i64 e.nu, .int .i64 e.tk, .slice e.cp e.cn e.cc, .string e.cd, .slice e.ap e.an e.ac] 30)) = V := ⟨_, rfl⟩
  rw [hV] at bv bx by_
  have HB : Hid (Below w.heap.size w V) := bv
  have HL : Hid (Hd V B g1 g2 g3 e ∧ Lies V e) := ⟨h1.below bv, h2.below bv⟩
  have s1 := Kept_true (c := e.tc) V HL.out.1.t HL.out.2.t n1
  have s2 : ∀ m, Calls Tryz.prog 52 #[.slice (some ⟨g2, 0, none⟩) e.cn (e.cn + 90), .slice e.cp e.cn e.cc] (V.drewN m) fun e w' => e = .returned (.bool true) ∧ ∃ k, w' = (V.drewN m).drewN k := fun m => Kept_true _ (HL.out.1.c.below (below_drewN (Below.refl _ _) m)) (HL.out.2.c.below (below_drewN (Below.refl _ _) m)) n2
  have s3 : ∀ m, Calls Tryz.prog 52 #[.slice (some ⟨g3, 0, none⟩) e.an (e.an + 90), .slice e.ap e.an e.ac] (V.drewN m) fun e w' => e = .returned (.bool true) ∧ ∃ k, w' = (V.drewN m).drewN k := fun m => Kept_true _ (HL.out.1.a.below (below_drewN (Below.refl _ _) m)) (HL.out.2.a.below (below_drewN (Below.refl _ _) m)) n3
  have cx := bx.cell
  have cy := by_.cell
  clear bv bx by_ h1 h2 n1 n2 n3
  go_enter Tryz.func18, Tryz.ntmps18
  go_wp2_with fail
  clear hV
  refine s1.mono ?_
  rintro _ w1 ⟨rfl, m1, rfl⟩
  have s2' := s2 m1
  clear s1 s2
  go_wp2_with fail
  refine s2'.mono ?_
  rintro _ w2 ⟨rfl, m2, rfl⟩
  rw [World.drewN_drewN]
  have s3' := s3 (m1 + m2)
  clear s2' s3
  go_wp2_with fail
  refine s3'.mono ?_
  rintro _ w3 ⟨rfl, m3, rfl⟩
  rw [World.drewN_drewN]
  clear s3'
  go_wp2_with fail
  go_ret
  exact ⟨rfl, below_drewN HB.out _⟩
theorem mkd_pre {g n : Nat} {bs : List Int} (h : Mkd w B g n bs) : BRow w B (.slice (some ⟨g, 0, none⟩) n (n + 90)) ((bs ++ marks).take n) := BRow.prefix (m := n) h.1 (by omega)
set_option maxRecDepth 100000 in
set_option maxHeartbeats 4000000 in
theorem turned_any (e : Ent) (h1 : Hd w B g1 g2 g3 e) :
    Calls Tryz.prog 19 #[.agg #[.string e.ct, .slice (some ⟨g1, 0, none⟩) e.tn (e.tn + 90), .int .i64 e.nu, .int .i64 e.tk, .slice (some ⟨g2, 0, none⟩) e.cn (e.cn + 90), .string e.cd, .slice (some ⟨g3, 0, none⟩) e.an (e.an + 90)]] w fun r w' => r = .returned (.tuple #[]) ∧ Hid (Off (fun q => q = g1 ∨ q = g2 ∨ q = g3) w w') := by
  have bv : Below w.heap.size w (w.alloc (.cells #[.string e.ct, .slice (some ⟨g1, 0, none⟩) e.tn (e.tn + 90), .int .i64 e.nu, .int .i64 e.tk, .slice (some ⟨g2, 0, none⟩) e.cn (e.cn + 90), .string e.cd, .slice (some ⟨g3, 0, none⟩) e.an (e.an + 90)] 30)) := (Below.refl _ _).alloc (Nat.le_refl _) _
  have bx := Box.new w #[.string e.ct, .slice (some ⟨g1, 0, none⟩) e.tn (e.tn + 90), .int .i64 e.nu, .int .i64 e.tk, .slice (some ⟨g2, 0, none⟩) e.cn (e.cn + 90), .string e.cd, .slice (some ⟨g3, 0, none⟩) e.an (e.an + 90)] 30
  obtain ⟨V, hV⟩ : ∃ V, w.alloc (.cells #[.string e.ct, .slice (some ⟨g1, 0, none⟩) e.tn (e.tn + 90), .int .i64 e.nu, .int .i64 e.tk, .slice (some ⟨g2, 0, none⟩) e.cn (e.cn + 90), .string e.cd, .slice (some ⟨g3, 0, none⟩) e.an (e.an + 90)] 30) = V := ⟨_, rfl⟩
  rw [hV] at bv bx
  obtain ⟨xb, hxb⟩ : ∃ xb, w.heap.size = xb := ⟨_, rfl⟩
  rw [hxb] at bx
  have HH : Hid (Hd V B g1 g2 g3 e ∧ Below w.heap.size w V ∧ Box V xb #[.string e.ct, .slice (some ⟨g1, 0, none⟩) e.tn (e.tn + 90), .int .i64 e.nu, .int .i64 e.tk, .slice (some ⟨g2, 0, none⟩) e.cn (e.cn + 90), .string e.cd, .slice (some ⟨g3, 0, none⟩) e.an (e.an + 90)] ∧ g1 < xb ∧ g2 < xb ∧ g3 < xb) := ⟨h1.below bv, bv, bx, by have := h1.t.lt.2; omega, by have := h1.c.lt.2; omega, by have := h1.a.lt.2; omega⟩
  have cx := bx.cell 1
  have ht1 := turn_any (mkd_pre HH.out.1.t)
  clear bv bx h1
  go_enter Tryz.func19, Tryz.ntmps19
  go_wp2_with fail
  clear hV
  refine ht1.mono ?_
  rintro _ w1 ⟨rfl, O1⟩
  have hm2 : Mkd w1 B g2 e.cn e.cx := HH.out.1.c.off O1.out (by have := HH.out.1.n1; omega)
  have hm3 : Mkd w1 B g3 e.an e.ax := HH.out.1.a.off O1.out (by have := HH.out.1.n1; have := HH.out.1.n2; omega)
  have HM3 : Hid (Mkd w1 B g3 e.an e.ax) := hm3
  have hb1 := HH.out.2.2.1.off O1.out (by have := HH.out.2.2.2.1; omega)
  have HB1 : Hid (Box w1 xb #[.string e.ct, .slice (some ⟨g1, 0, none⟩) e.tn (e.tn + 90), .int .i64 e.nu, .int .i64 e.tk, .slice (some ⟨g2, 0, none⟩) e.cn (e.cn + 90), .string e.cd, .slice (some ⟨g3, 0, none⟩) e.an (e.an + 90)]) := hb1
  have ht2 := turn_any (mkd_pre hm2)
  have cx1 := hb1.cell 4
  clear ht1 cx hm2 hm3 hb1
  go_wp2_with fail
  refine ht2.mono ?_
  rintro _ w2 ⟨rfl, O2⟩
  have hm3 : Mkd w2 B g3 e.an e.ax := HM3.out.off O2.out (by have := HH.out.1.n2; omega)
  have hb2 := HB1.out.off O2.out (by have := HH.out.2.2.2.2.1; omega)
  have ht3 := turn_any (mkd_pre hm3)
  have cx2 := hb2.cell 6
  clear ht2 cx1 hm3 hb2 HM3 HB1
  go_wp2_with fail
  refine ht3.mono ?_
  rintro _ w3 ⟨rfl, O3⟩
  have HZ : Hid (Off (fun q => q = g1 ∨ q = g2 ∨ q = g3) w w3) := Off.trans (Off.of_below HH.out.2.1) (Off.trans (O1.out.mono fun q h => Or.inl h) (Off.trans (O2.out.mono fun q h => Or.inr (Or.inl h)) (O3.out.mono fun q h => Or.inr (Or.inr h))))
  clear ht3 cx2
  go_wp2_with fail
  go_end0
  exact ⟨rfl, HZ⟩
end
end Go.Proofs.YtjbkfppibnlmoaaGreatDoor

/-
  The law's accepts.
-/
namespace Go.Proofs.YtjbkfppibnlmoaaGreatDoor
open Go.RowKit

theorem blk_below {w w' : World} {q : Nat} {x : Obj} (h : w.heap[q]? = some x) (hb : Below w.heap.size w w') : w'.heap[q]? = some x := (hb.block q (blk_lt h)).trans h
theorem num_any (c : Int) (w : World) : Calls Tryz.prog 13 #[.int .i64 c] w fun r w' => r = .returned (.int .i64 c) ∧ w' = w := by
  go_enter Tryz.func13, Tryz.ntmps13
  go_wp2
  go_ret
  exact ⟨rfl, rfl⟩
theorem mkd_type {w : World} {B g n : Nat} {bs : List Int} (h : Mkd w B g n bs) : ∃ cs, w.heap[g]? = some (.cells cs 5 (0, 0)) := by
  rcases h.1.2 with ⟨e, _⟩ | ⟨g1, c1, u1, e, _, b1, _⟩
  · cases e
  · simp only [Value.slice.injEq, Option.some.injEq, Addr.mk.injEq] at e
    rw [e.1.1]
    exact ⟨_, b1⟩
section
variable {W w w' : World} {X K n C D E : Nat} {bv mk ke rm L : Value} {o : Option (Int × Int)} {A A' : List Ent}
theorem LS.within {P : Nat → Prop} (h : LS W X K bv mk ke rm L C D E o A A' n w) (ho : Off P w w') (hP : ∀ q, P q → (C ≤ q ∧ q < D ∧ q < E) ∧ ∃ cs, w.heap[q]? = some (.cells cs 5 (0, 0))) (hC : W.heap.size ≤ C) : LS W X K bv mk ke rm L C D E o A A' n w' :=
  ⟨h.offT ho fun q cs t hc ht hp => by
    obtain ⟨cs', hc'⟩ := (hP q hp).2
    rw [hc] at hc'
    simp only [Option.some.injEq, Obj.cells.injEq] at hc'
    exact nLB (hc'.2.1 ▸ ht), h.sd.within ho fun q hp => (hP q hp).1, h.bel.trans (ho.below h.bel.size fun q hp => Nat.le_trans hC (hP q hp).1.1), h.lX, h.lK⟩
theorem ev_keep {B : Nat} {ev : Value} {c : Int} (h : OEv w B ev 0 c) {N : Nat} (hN : w.heap.size = N) (hk : ∀ q, B ≤ q → q < N → w'.heap[q]? = w.heap[q]?) : OEv w' B ev 0 c :=
  h.keep fun b o' hl hB => World.cell?_of_block (w := w) (hk b hB (by rw [← hN]; exact hl))
set_option maxRecDepth 100000 in
set_option maxHeartbeats 8000000 in
theorem accepts_any (h : LS W X K bv mk ke rm L C D E o A A n w) (hE : ErrType W) (e : Ent) (hl : Lies W e) (hk : KeyS e.ct) (n1 : e.tn + 90 ≤ 140737488355328) (n2 : e.cn + 90 ≤ 140737488355328) (n3 : e.an + 90 ≤ 140737488355328) :
    Calls Tryz.prog 21 #[.pointer (some ⟨X, 0, none⟩), .agg #[.string e.ct, .slice e.tp e.tn e.tc, .int .i64 e.nu, .int .i64 e.tk, .slice e.cp e.cn e.cc, .string e.cd, .slice e.ap e.an e.ac]] w fun r w' => r = .returned (.bool true) ∧ Hid (∃ L', LS W X K bv mk ke rm L' 0 0 0 o (accSo o A e) (accSo o A e) n w') := by
  have HI : Hid (ErrType W ∧ Lies W e ∧ KeyS e.ct ∧ e.tn + 90 ≤ 140737488355328 ∧ e.cn + 90 ≤ 140737488355328 ∧ e.an + 90 ≤ 140737488355328 ∧ LS W X K bv mk ke rm L C D E o A A n w) := ⟨hE, hl, hk, n1, n2, n3, h⟩
  obtain ⟨eb, heb⟩ : ∃ b, w.heap.size = b := ⟨_, rfl⟩
  have bv0 : Below w.heap.size w (w.alloc (.cells #[.string e.ct, .slice e.tp e.tn e.tc, .int .i64 e.nu, .int .i64 e.tk, .slice e.cp e.cn e.cc, .string e.cd, .slice e.ap e.an e.ac] 30)) := (Below.refl _ _).alloc (Nat.le_refl _) _
  have hb0 : (w.alloc (.cells #[.string e.ct, .slice e.tp e.tn e.tc, .int .i64 e.nu, .int .i64 e.tk, .slice e.cp e.cn e.cc, .string e.cd, .slice e.ap e.an e.ac] 30)).heap[w.heap.size]? = some (.cells #[.string e.ct, .slice e.tp e.tn e.tc, .int .i64 e.nu, .int .i64 e.tk, .slice e.cp e.cn e.cc, .string e.cd, .slice e.ap e.an e.ac] 30 (0, 0)) := heap_alloc_new _ _
  obtain ⟨V0, hV0⟩ : ∃ V, w.alloc (.cells #[.string e.ct, .slice e.tp e.tn e.tc, .int .i64 e.nu, .int .i64 e.tk, .slice e.cp e.cn e.cc, .string e.cd, .slice e.ap e.an e.ac] 30) = V := ⟨_, rfl⟩
  rw [hV0] at bv0 hb0
  rw [heb] at hb0
  have HV0 : Hid (Below w.heap.size w V0 ∧ V0.heap[eb]? = some (.cells #[.string e.ct, .slice e.tp e.tn e.tc, .int .i64 e.nu, .int .i64 e.tk, .slice e.cp e.cn e.cc, .string e.cd, .slice e.ap e.an e.ac] 30 (0, 0)) ∧ w.heap.size = eb) := ⟨bv0, hb0, heb⟩
  have hd := handed_full e V0 (hl.below (below_then h.bel bv0)) n1 n2 n3
  have cx := hcell hb0
  clear h hE hl hk n1 n2 n3 bv0 hb0
  go_enter Tryz.func21, Tryz.ntmps21
  go_wp2_with fail
  clear hV0
  refine hd.mono ?_
  rintro _ w1 ⟨g1, g2, g3, rfl, hh1, b1⟩
  clear hd cx
  have HH1 : Hid (Hd w1 V0.heap.size g1 g2 g3 e ∧ Below V0.heap.size V0 w1) := ⟨hh1, b1⟩
  clear hh1 b1
  go_upto_region 2 with fail
  have HV1 : Hid (Below w1.heap.size w1 (w1.alloc (.cells #[.string e.ct, .slice (some ⟨g1, 0, none⟩) e.tn (e.tn + 90), .int .i64 e.nu, .int .i64 e.tk, .slice (some ⟨g2, 0, none⟩) e.cn (e.cn + 90), .string e.cd, .slice (some ⟨g3, 0, none⟩) e.an (e.an + 90)] 30)) ∧ (w1.alloc (.cells #[.string e.ct, .slice (some ⟨g1, 0, none⟩) e.tn (e.tn + 90), .int .i64 e.nu, .int .i64 e.tk, .slice (some ⟨g2, 0, none⟩) e.cn (e.cn + 90), .string e.cd, .slice (some ⟨g3, 0, none⟩) e.an (e.an + 90)] 30)).heap[w1.heap.size]? = some (.cells #[.string e.ct, .slice (some ⟨g1, 0, none⟩) e.tn (e.tn + 90), .int .i64 e.nu, .int .i64 e.tk, .slice (some ⟨g2, 0, none⟩) e.cn (e.cn + 90), .string e.cd, .slice (some ⟨g3, 0, none⟩) e.an (e.an + 90)] 30 (0, 0))) := ⟨(Below.refl _ _).alloc (Nat.le_refl _) _, heap_alloc_new _ _⟩
  obtain ⟨V1, hV1⟩ : ∃ V, w1.alloc (.cells #[.string e.ct, .slice (some ⟨g1, 0, none⟩) e.tn (e.tn + 90), .int .i64 e.nu, .int .i64 e.tk, .slice (some ⟨g2, 0, none⟩) e.cn (e.cn + 90), .string e.cd, .slice (some ⟨g3, 0, none⟩) e.an (e.an + 90)] 30) = V := ⟨_, rfl⟩
  rw [hV1] at HV1 ⊢
  clear hV1
  obtain ⟨hb, hhb⟩ : ∃ b, w1.heap.size = b := ⟨_, rfl⟩
  have HS : Hid (w1.heap.size = hb) := hhb
  rw [hhb] at HV1 ⊢
  clear hhb
  have HVW : Hid (Below w.heap.size w V1 ∧ V1.heap[eb]? = some (.cells #[.string e.ct, .slice e.tp e.tn e.tc, .int .i64 e.nu, .int .i64 e.tk, .slice e.cp e.cn e.cc, .string e.cd, .slice e.ap e.an e.ac] 30 (0, 0)) ∧ V1.heap[hb]? = some (.cells #[.string e.ct, .slice (some ⟨g1, 0, none⟩) e.tn (e.tn + 90), .int .i64 e.nu, .int .i64 e.tk, .slice (some ⟨g2, 0, none⟩) e.cn (e.cn + 90), .string e.cd, .slice (some ⟨g3, 0, none⟩) e.an (e.an + 90)] 30 (0, 0)) ∧ Hd V1 w.heap.size g1 g2 g3 e ∧ w.heap.size ≤ eb ∧ eb < V1.heap.size ∧ w.heap.size ≤ hb ∧ hb < V1.heap.size ∧ w.heap.size ≤ V1.heap.size) := by
    have q1 := HV0.out.1
    have q2 := below_then q1 HH1.out.2
    have hbl : Below w1.heap.size w1 V1 := by rw [HS.out]; exact HV1.out.1
    have q3 := below_then q2 hbl
    have q4 : V1.heap[eb]? = some (.cells #[.string e.ct, .slice e.tp e.tn e.tc, .int .i64 e.nu, .int .i64 e.tk, .slice e.cp e.cn e.cc, .string e.cd, .slice e.ap e.an e.ac] 30 (0, 0)) := ((below_then HH1.out.2 hbl).block eb (blk_lt HV0.out.2.1)).trans HV0.out.2.1
    have q5 : Hd V1 V0.heap.size g1 g2 g3 e := HH1.out.1.below hbl
    have q6 := q1.size
    have q7 := q2.size
    exact ⟨q3, q4, HV1.out.2, ⟨q5.t.base q6, q5.c.base q6, q5.a.base q6, q5.n1, q5.n2⟩, by rw [HV0.out.2.2]; exact Nat.le_refl _, blk_lt q4, by rw [← HS.out]; exact q7, blk_lt HV1.out.2, q3.size⟩
  have HU : Hid (∀ z, Below V1.heap.size V1 z → Calls Tryz.prog 54 #[bv, .agg #[.string e.ct, .slice (some ⟨g1, 0, none⟩) e.tn (e.tn + 90), .int .i64 e.nu, .int .i64 e.tk, .slice (some ⟨g2, 0, none⟩) e.cn (e.cn + 90), .string e.cd, .slice (some ⟨g3, 0, none⟩) e.an (e.an + 90)]] z fun r z' => ∃ ev, r = .returned ev ∧ Hid (LS W X K bv mk ke rm L w.heap.size V1.heap.size z'.heap.size o (accSo o A e) A n z' ∧ OEv z' V1.heap.size ev 0 (accCo o A e) ∧ (∀ q, w.heap.size ≤ q → q < V1.heap.size → z'.heap[q]? = V1.heap[q]?) ∧ V1.heap.size ≤ z'.heap.size)) := fun z hz => by
    have hls := HI.out.2.2.2.2.2.2.hole (below_then HVW.out.1 hz) V1.heap.size z.heap.size
    refine (u_acc hls hz.size rfl (e.hd g1 g2 g3) e (Tw.symm ⟨_, _, _, _, _, _, rfl⟩) HI.out.2.2.1 (HVW.out.2.2.2.1.lies.below hz)).mono ?_
    rintro r z' ⟨ev, hr, hq⟩
    obtain ⟨p1, p2, p3, p4⟩ := hq.out
    exact ⟨ev, hr, p1, p2.mono hz.size, fun q h1 h2 => (p3 q h1 h2).trans (hz.block q h2), Nat.le_trans hz.size p4⟩
  have x0 : V1.cell? ⟨X, 0, none⟩ = some bv := (HI.out.2.2.2.2.2.2.below HVW.out.1).cells.1
  have lx : X < V1.heap.size := (HI.out.2.2.2.2.2.2.below HVW.out.1).cells.2.2.2.2
  have cy := hcell HVW.out.2.2.1
  have lh := HVW.out.2.2.2.2.2.2.2.1
  clear HV0 HH1 HV1 HS
  go_cut [6] (fun t6 wx => Hid (LS W X K bv mk ke rm L w.heap.size V1.heap.size wx.heap.size o (accSo o A e) A n wx ∧ OEv wx V1.heap.size t6 0 (accCo o A e) ∧ (∀ q, w.heap.size ≤ q → q < V1.heap.size → wx.heap[q]? = V1.heap[q]?) ∧ V1.heap.size ≤ wx.heap.size))
  case first =>
    clear HI HVW
    go_region_law (go_simp; go_at_call 54; refine (HU.out _ ?_).mono ?_; (first | exact Below.refl _ _ | exact Below.drew (Below.refl _ _)); rintro _ y1 ⟨ev, rfl, H1⟩)
    all_goals
      have H2 : Hid (LS W X K bv mk ke rm L w.heap.size V1.heap.size y1.drew.heap.size o (accSo o A e) A n y1.drew ∧ OEv y1.drew V1.heap.size ev 0 (accCo o A e) ∧ (∀ q, w.heap.size ≤ q → q < V1.heap.size → y1.drew.heap[q]? = V1.heap[q]?) ∧ V1.heap.size ≤ y1.drew.heap.size) := by
        obtain ⟨p1, p2, p3, p4⟩ := H1.out
        exact ⟨p1.below (Below.refl _ _).drew, p2.below (Below.refl _ _).drew, p3, p4⟩
      go_wp2_with fail
      go_meet
      first | exact H1 | exact H2
  case rest =>
    obtain ⟨w3, rfl⟩ : ∃ U, U = wc := ⟨_, rfl⟩
    have H1 := hcut
    clear hcut HU x0 cy
    have he1 : w3.heap[eb]? = some (.cells #[.string e.ct, .slice e.tp e.tn e.tc, .int .i64 e.nu, .int .i64 e.tk, .slice e.cp e.cn e.cc, .string e.cd, .slice e.ap e.an e.ac] 30 (0, 0)) := (H1.out.2.2.1 eb HVW.out.2.2.2.2.1 HVW.out.2.2.2.2.2.1).trans HVW.out.2.1
    have cx := hcell he1
    have le := blk_lt he1
    have lx2 : X < w3.heap.size := H1.out.1.cells.2.2.2.2
    clear lx lh
    have HR : Hid (∀ z, Below w3.heap.size w3 z → Calls Tryz.prog 55 #[.pointer (some ⟨X, 1, none⟩), .agg #[.string e.ct, .slice e.tp e.tn e.tc, .int .i64 e.nu, .int .i64 e.tk, .slice e.cp e.cn e.cc, .string e.cd, .slice e.ap e.an e.ac]] z fun r z' => r = .returned (.int .i64 (accCo o A e)) ∧ Hid (∃ L', LS W X K bv mk ke rm L' w.heap.size V1.heap.size w3.heap.size o (accSo o A e) (accSo o A e) n z' ∧ (∀ q, w.heap.size ≤ q → q < w3.heap.size → z'.heap[q]? = w3.heap[q]?) ∧ w3.heap.size ≤ z'.heap.size)) := fun z hz => by
      refine (r_acc (H1.out.1.below hz) hz.size e e (Tw.refl e) (HI.out.2.1.below (below_then H1.out.1.bel hz))).mono ?_
      rintro r z' ⟨hr, hq⟩
      obtain ⟨L', p1, p2, p3⟩ := hq.out
      exact ⟨hr, L', p1, fun q h1 h2 => (p2 q h1 h2).trans (hz.block q h2), Nat.le_trans hz.size p3⟩
    go_upto_region 3 with fail
    go_cut [7] (fun t7 wx => t7 = .int .i64 (accCo o A e) ∧ Hid (∃ L', LS W X K bv mk ke rm L' w.heap.size V1.heap.size w3.heap.size o (accSo o A e) (accSo o A e) n wx ∧ (∀ q, w.heap.size ≤ q → q < w3.heap.size → wx.heap[q]? = w3.heap[q]?) ∧ w3.heap.size ≤ wx.heap.size))
    case first =>
      clear HI HVW H1
      go_region_law (go_simp; go_at_call 55; refine (HR.out _ ?_).mono ?_; (first | exact Below.refl _ _ | exact Below.drew (Below.refl _ _)); rintro _ y1 ⟨rfl, H2⟩)
      all_goals
        have H3 : Hid (∃ L', LS W X K bv mk ke rm L' w.heap.size V1.heap.size w3.heap.size o (accSo o A e) (accSo o A e) n y1.drew ∧ (∀ q, w.heap.size ≤ q → q < w3.heap.size → y1.drew.heap[q]? = w3.heap[q]?) ∧ w3.heap.size ≤ y1.drew.heap.size) := by
          obtain ⟨L', p1, p2, p3⟩ := H2.out
          exact ⟨L', p1.below (Below.refl _ _).drew, p2, p3⟩
        go_wp2_with fail
        go_meet
        first | exact ⟨rfl, H2⟩ | exact ⟨rfl, H3⟩
    case rest =>
      obtain ⟨w4, rfl⟩ : ∃ U, U = wc := ⟨_, rfl⟩
      obtain ⟨rfl, H2⟩ := hcut
      clear HR cx le lx2
      obtain ⟨L', p1, p2, p3⟩ := H2.out
      have HP : Hid (LS W X K bv mk ke rm L' w.heap.size V1.heap.size w3.heap.size o (accSo o A e) (accSo o A e) n w4 ∧ OEv w4 V1.heap.size u6 0 (accCo o A e) ∧ Hd w4 w.heap.size g1 g2 g3 e) := ⟨p1, ev_keep H1.out.2.1 rfl fun q h1 h2 => p2 q (Nat.le_trans HVW.out.2.2.2.2.2.2.2.2 h1) h2, (HVW.out.2.2.2.1.keep fun q h1 h2 => H1.out.2.2.1 q h1 h2).keep fun q h1 h2 => p2 q h1 h2⟩
      have HC : Hid (w4.heap[eb]? = some (.cells #[.string e.ct, .slice e.tp e.tn e.tc, .int .i64 e.nu, .int .i64 e.tk, .slice e.cp e.cn e.cc, .string e.cd, .slice e.ap e.an e.ac] 30 (0, 0)) ∧ w4.heap[hb]? = some (.cells #[.string e.ct, .slice (some ⟨g1, 0, none⟩) e.tn (e.tn + 90), .int .i64 e.nu, .int .i64 e.tk, .slice (some ⟨g2, 0, none⟩) e.cn (e.cn + 90), .string e.cd, .slice (some ⟨g3, 0, none⟩) e.an (e.an + 90)] 30 (0, 0))) := ⟨(p2 eb HVW.out.2.2.2.2.1 (blk_lt he1)).trans he1, (p2 hb HVW.out.2.2.2.2.2.2.1 (Nat.lt_of_lt_of_le HVW.out.2.2.2.2.2.2.2.1 H1.out.2.2.2)).trans ((H1.out.2.2.1 hb HVW.out.2.2.2.2.2.2.1 HVW.out.2.2.2.2.2.2.2.1).trans HVW.out.2.2.1)⟩
      have HG : Hid (w.heap.size ≤ V1.heap.size ∧ V1.heap.size ≤ w3.heap.size ∧ g1 < V1.heap.size ∧ g2 < V1.heap.size ∧ g3 < V1.heap.size ∧ W.heap.size ≤ w.heap.size) := ⟨HVW.out.2.2.2.2.2.2.2.2, H1.out.2.2.2, HVW.out.2.2.2.1.t.lt.2, HVW.out.2.2.2.1.c.lt.2, HVW.out.2.2.2.1.a.lt.2, HI.out.2.2.2.2.2.2.bel.size⟩
      clear he1 H1 H2 p1 p2 p3 HVW
      obtain ⟨cc, hcc⟩ : ∃ c, accCo o A e = c := ⟨_, rfl⟩
      have hcd := code_any HP.out.2.1 (errType_below HI.out.1 HP.out.1.bel)
      rw [hcc] at hcd ⊢
      clear hcc
      go_wp2_with fail
      refine hcd.mono ?_
      rintro _ w5 ⟨rfl, b5⟩
      clear hcd
      go_wp2_with fail
      refine (num_any _ _).mono ?_
      rintro _ w9 ⟨rfl, h9⟩
      subst w9
      have HP5 : Hid (LS W X K bv mk ke rm L' w.heap.size V1.heap.size w3.heap.size o (accSo o A e) (accSo o A e) n w5 ∧ Hd w5 w.heap.size g1 g2 g3 e) := ⟨HP.out.1.below b5, HP.out.2.2.below b5⟩
      have cx5 := hcell (blk_below HC.out.1 b5)
      have cy5 := hcell (blk_below HC.out.2 b5)
      have HC5 : Hid (w5.heap[hb]? = some (.cells #[.string e.ct, .slice (some ⟨g1, 0, none⟩) e.tn (e.tn + 90), .int .i64 e.nu, .int .i64 e.tk, .slice (some ⟨g2, 0, none⟩) e.cn (e.cn + 90), .string e.cd, .slice (some ⟨g3, 0, none⟩) e.an (e.an + 90)] 30 (0, 0))) := blk_below HC.out.2 b5
      have hkp := kept_any e HP5.out.2 (HI.out.2.1.below HP5.out.1.bel) HI.out.2.2.2.1 HI.out.2.2.2.2.1 HI.out.2.2.2.2.2.1
      clear b5 HC HP
      go_wp2_with fail
      refine hkp.mono ?_
      rintro _ w6 ⟨rfl, b6⟩
      have HP6 : Hid (LS W X K bv mk ke rm L' w.heap.size V1.heap.size w3.heap.size o (accSo o A e) (accSo o A e) n w6 ∧ Hd w6 w.heap.size g1 g2 g3 e) := ⟨HP5.out.1.below b6, HP5.out.2.below b6⟩
      have cy6 := hcell (blk_below HC5.out b6)
      have htu := turned_any e HP6.out.2
      clear b6 HC5 HP5 cx5 cy5 hkp
      go_wp2_with fail
      refine htu.mono ?_
      rintro _ w7 ⟨rfl, O7⟩
      have HZ : Hid (∃ L', LS W X K bv mk ke rm L' 0 0 0 o (accSo o A e) (accSo o A e) n w7) := ⟨L', (HP6.out.1.within O7.out (fun q hq => by
        obtain ⟨r1, r2, r3, r4, r5, r6⟩ := HG.out
        rcases hq with rfl | rfl | rfl
        · exact ⟨⟨HP6.out.2.t.lt.1, r3, by omega⟩, mkd_type HP6.out.2.t⟩
        · exact ⟨⟨HP6.out.2.c.lt.1, r4, by omega⟩, mkd_type HP6.out.2.c⟩
        · exact ⟨⟨HP6.out.2.a.lt.1, r5, by omega⟩, mkd_type HP6.out.2.a⟩) HG.out.2.2.2.2.2).free⟩
      clear htu cy6
      go_wp2_with fail
      go_ret
      exact ⟨rfl, HZ⟩
end
end Go.Proofs.YtjbkfppibnlmoaaGreatDoor
