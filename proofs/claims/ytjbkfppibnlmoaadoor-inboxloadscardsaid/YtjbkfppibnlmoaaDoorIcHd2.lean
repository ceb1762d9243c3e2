/-
  An entry that is handed in, with its marks; kept; turned.
-/
import Derived.Test.YtjbkfppibnlmoaaDoorIcHd
namespace Go.Proofs.YtjbkfppibnlmoaaDoor
open Go.RowKit

/-- An entry's three lists as they were handed in. -/
structure Hd (w : World) (B g1 g2 g3 : Nat) (e : Ent) : Prop where
  t : Mkd w B g1 e.tn e.tx
  c : Mkd w B g2 e.cn e.cx
  a : Mkd w B g3 e.an e.ax
  n1 : g1 < g2
  n2 : g2 < g3
/-- It, there. -/
abbrev Ent.hd (e : Ent) (g1 g2 g3 : Nat) : Ent := e.wi (some ⟨g1, 0, none⟩) (e.tn + 90) (some ⟨g2, 0, none⟩) (e.cn + 90) (some ⟨g3, 0, none⟩) (e.an + 90)
section
variable {w w' : World} {B g1 g2 g3 : Nat} {e : Ent}
theorem Hd.below (h : Hd w B g1 g2 g3 e) (hb : Below w.heap.size w w') : Hd w' B g1 g2 g3 e := ⟨h.t.below hb, h.c.below hb, h.a.below hb, h.n1, h.n2⟩
theorem Hd.keep (h : Hd w B g1 g2 g3 e) (hk : ∀ q, B ≤ q → q < w.heap.size → w'.heap[q]? = w.heap[q]?) : Hd w' B g1 g2 g3 e := ⟨h.t.keep (hk _ h.t.lt.1 h.t.lt.2), h.c.keep (hk _ h.c.lt.1 h.c.lt.2), h.a.keep (hk _ h.a.lt.1 h.a.lt.2), h.n1, h.n2⟩
theorem Hd.lies (h : Hd w B g1 g2 g3 e) : Lies w (e.hd g1 g2 g3) := ⟨h.t.byts, h.c.byts, h.a.byts⟩
end
theorem hand_full {po : Option Addr} {m c : Nat} {bs : List Int} (w : World) (hb : Byts w po m bs) (hm : m + 90 ≤ 140737488355328) : Calls Tryd.prog 18 #[.slice po m c] w fun e w' => ∃ g, e = .returned (.slice (some ⟨g, 0, none⟩) m (m + 90)) ∧ Mkd w' w.heap.size g m bs ∧ Below w.heap.size w w' :=
  (Hand_any w hb hm).mono fun _ _ ⟨h1, h2, h3⟩ => ⟨_, h1, ⟨h2, hb.len⟩, h3⟩
theorem Mkd.off {P : Nat → Prop} {w w' : World} {B g n : Nat} {bs : List Int} (h : Mkd w B g n bs) (o : Off P w w') (hP : ¬ P g) : Mkd w' B g n bs := h.keep (o.block g h.lt.2 hP)
theorem Mkd.base {w : World} {B C g n : Nat} {bs : List Int} (h : Mkd w B g n bs) (hC : C ≤ B) : Mkd w C g n bs := ⟨ERow.base h.1 hC, h.2⟩
set_option maxRecDepth 100000 in
set_option maxHeartbeats 4000000 in
theorem handed_full (e : Ent) (w : World) (hl : Lies w e) (h1 : e.tn + 90 ≤ 140737488355328) (h2 : e.cn + 90 ≤ 140737488355328) (h3 : e.an + 90 ≤ 140737488355328) :
    Calls Tryd.prog 7 #[.agg #[.string e.ct, .slice e.tp e.tn e.tc, .int .i64 e.nu, .int .i64 e.tk, .slice e.cp e.cn e.cc, .string e.cd, .slice e.ap e.an e.ac]] w fun r w' => ∃ g1 g2 g3, r = .returned (.agg #[.string e.ct, .slice (some ⟨g1, 0, none⟩) e.tn (e.tn + 90), .int .i64 e.nu, .int .i64 e.tk, .slice (some ⟨g2, 0, none⟩) e.cn (e.cn + 90), .string e.cd, .slice (some ⟨g3, 0, none⟩) e.an (e.an + 90)]) ∧ Hd w' w.heap.size g1 g2 g3 e ∧ Below w.heap.size w w' := by
  have bv : Below w.heap.size w ((w.alloc (.cells #[.string e.ct, .slice e.tp e.tn e.tc, .int .i64 e.nu, .int .i64 e.tk, .slice e.cp e.cn e.cc, .string e.cd, .slice e.ap e.an e.ac] 30)).alloc (.cells #[.string ⟨#[]⟩, .slice none 0 0, .int .i64 0, .int .i64 0, .slice none 0 0, .string ⟨#[]⟩, .slice none 0 0] 30)) := ((Below.refl _ _).alloc (Nat.le_refl _) _).alloc (by simp) _
  have bx := (Box.new w #[.string e.ct, .slice e.tp e.tn e.tc, .int .i64 e.nu, .int .i64 e.tk, .slice e.cp e.cn e.cc, .string e.cd, .slice e.ap e.an e.ac] 30).alloc (.cells #[.string ⟨#[]⟩, .slice none 0 0, .int .i64 0, .int .i64 0, .slice none 0 0, .string ⟨#[]⟩, .slice none 0 0] 30)
  have by_ := Box.new (w.alloc (.cells #[.string e.ct, .slice e.tp e.tn e.tc, .int .i64 e.nu, .int .i64 e.tk, .slice e.cp e.cn e.cc, .string e.cd, .slice e.ap e.an e.ac] 30)) #[.string ⟨#[]⟩, .slice none 0 0, .int .i64 0, .int .i64 0, .slice none 0 0, .string ⟨#[]⟩, .slice none 0 0] 30
  rw [World.size_alloc] at by_
  obtain ⟨V, hV⟩ : ∃ V, ((w.alloc (.cells #[.string e.ct, .slice e.tp e.tn e.tc, .int .i64 e.nu, .int .i64 e.tk, .slice e.cp e.cn e.cc, .string e.cd, .slice e.ap e.an e.ac] 30)).alloc (.cells #[.string ⟨#[]⟩, .slice none 0 0, .int .i64 0, .int .i64 0, .slice none 0 0, .string ⟨#[]⟩, .slice none 0 0] 30)) = V := ⟨_, rfl⟩
  have HZ : Hid (V.heap.size = w.heap.size + 1 + 1) := by unfold Hid; rw [← hV]; simp
  rw [hV] at bx by_ bv
  obtain ⟨xb, hxb⟩ : ∃ xb, w.heap.size = xb := ⟨_, rfl⟩
  have HXB : Hid (w.heap.size = xb) := hxb
  have HB0 : Hid (Below w.heap.size w V) := bv
  have HX : Hid (Box V xb #[.string e.ct, .slice e.tp e.tn e.tc, .int .i64 e.nu, .int .i64 e.tk, .slice e.cp e.cn e.cc, .string e.cd, .slice e.ap e.an e.ac] ∧ Box V (xb + 1) #[.string ⟨#[]⟩, .slice none 0 0, .int .i64 0, .int .i64 0, .slice none 0 0, .string ⟨#[]⟩, .slice none 0 0]) := by rw [← hxb]; exact ⟨bx, by_⟩
  have HL : Hid (Lies w e) := hl
  have HN : Hid (e.tn + 90 ≤ 140737488355328 ∧ e.cn + 90 ≤ 140737488355328 ∧ e.an + 90 ≤ 140737488355328) := ⟨h1, h2, h3⟩
  have hd1 := hand_full (c := e.tc) V (hl.below bv).t h1
  have cx := HX.out.1.cell
  clear bv bx by_ hl h1 h2 h3
  go_enter Tryd.func7, Tryd.ntmps7
  go_wp2_with fail
  clear hV
  refine hd1.mono ?_
  rintro _ w1 ⟨g1, rfl, r1, b1⟩
  have HW1 : Hid (Box (w1.setCell ⟨xb, 1, none⟩ (.slice (some ⟨g1, 0, none⟩) e.tn (e.tn + 90))) xb #[.string e.ct, .slice (some ⟨g1, 0, none⟩) e.tn (e.tn + 90), .int .i64 e.nu, .int .i64 e.tk, .slice e.cp e.cn e.cc, .string e.cd, .slice e.ap e.an e.ac] ∧ Box (w1.setCell ⟨xb, 1, none⟩ (.slice (some ⟨g1, 0, none⟩) e.tn (e.tn + 90))) (xb + 1) #[.string ⟨#[]⟩, .slice none 0 0, .int .i64 0, .int .i64 0, .slice none 0 0, .string ⟨#[]⟩, .slice none 0 0] ∧ Below w.heap.size w (w1.setCell ⟨xb, 1, none⟩ (.slice (some ⟨g1, 0, none⟩) e.tn (e.tn + 90))) ∧ Mkd (w1.setCell ⟨xb, 1, none⟩ (.slice (some ⟨g1, 0, none⟩) e.tn (e.tn + 90))) (xb + 2) g1 e.tn e.tx) := by
    have o1 : Off (fun q => q = xb) w1 (w1.setCell ⟨xb, 1, none⟩ (.slice (some ⟨g1, 0, none⟩) e.tn (e.tn + 90))) := Off.setCell (P := fun q => q = xb) (Off.refl _ _) (p := ⟨xb, 1, none⟩) rfl _
    have hz := HZ.out
    have hxx := HXB.out
    exact ⟨(HX.out.1.below b1).pPut (j := 1) (by simp) _, (HX.out.2.below b1).pOff (p := ⟨xb, 1, none⟩) (by simp) _, (below_then HB0.out b1).trans (o1.below (Nat.le_trans HB0.out.size b1.size) fun q hq => by omega), (r1.off o1 (by have := r1.lt.1; omega)).base (by omega)⟩
  have c1 := (HX.out.1.below b1).cell
  have f1 := (HX.out.1.below b1).free
  obtain ⟨W1, hW1⟩ : ∃ W1, w1.setCell ⟨xb, 1, none⟩ (.slice (some ⟨g1, 0, none⟩) e.tn (e.tn + 90)) = W1 := ⟨_, rfl⟩
  rw [hW1] at HW1
  have hd2 := hand_full (c := e.cc) W1 (HL.out.below HW1.out.2.2.1).c HN.out.2.1
  have cx1 := HW1.out.1.cell
  clear hd1 r1 b1 cx HX
  go_wp2_with fail
  clear hW1 c1 f1
  refine hd2.mono ?_
  rintro _ w2 ⟨g2, rfl, r2, b2⟩
  have HW2 : Hid (Box (w2.setCell ⟨xb, 4, none⟩ (.slice (some ⟨g2, 0, none⟩) e.cn (e.cn + 90))) xb #[.string e.ct, .slice (some ⟨g1, 0, none⟩) e.tn (e.tn + 90), .int .i64 e.nu, .int .i64 e.tk, .slice (some ⟨g2, 0, none⟩) e.cn (e.cn + 90), .string e.cd, .slice e.ap e.an e.ac] ∧ Box (w2.setCell ⟨xb, 4, none⟩ (.slice (some ⟨g2, 0, none⟩) e.cn (e.cn + 90))) (xb + 1) #[.string ⟨#[]⟩, .slice none 0 0, .int .i64 0, .int .i64 0, .slice none 0 0, .string ⟨#[]⟩, .slice none 0 0] ∧ Below w.heap.size w (w2.setCell ⟨xb, 4, none⟩ (.slice (some ⟨g2, 0, none⟩) e.cn (e.cn + 90))) ∧ Mkd (w2.setCell ⟨xb, 4, none⟩ (.slice (some ⟨g2, 0, none⟩) e.cn (e.cn + 90))) (xb + 2) g1 e.tn e.tx ∧ Mkd (w2.setCell ⟨xb, 4, none⟩ (.slice (some ⟨g2, 0, none⟩) e.cn (e.cn + 90))) (xb + 2) g2 e.cn e.cx ∧ g1 < g2) := by
    have o1 : Off (fun q => q = xb) w2 (w2.setCell ⟨xb, 4, none⟩ (.slice (some ⟨g2, 0, none⟩) e.cn (e.cn + 90))) := Off.setCell (P := fun q => q = xb) (Off.refl _ _) (p := ⟨xb, 4, none⟩) rfl _
    have hxx := HXB.out
    have hs : xb + 2 ≤ W1.heap.size := by have := HW1.out.2.1.lt; omega
    have t1 := HW1.out.2.2.2.below b2
    have l1 := HW1.out.2.2.2.lt.2
    exact ⟨(HW1.out.1.below b2).pPut (j := 4) (by simp) _, (HW1.out.2.1.below b2).pOff (p := ⟨xb, 4, none⟩) (by simp) _, (below_then HW1.out.2.2.1 b2).trans (o1.below (Nat.le_trans HW1.out.2.2.1.size b2.size) fun q hq => by omega), t1.off o1 (by have := t1.lt.1; omega), (r2.off o1 (by have := r2.lt.1; omega)).base hs, by have := r2.lt.1; omega⟩
  have c2 := (HW1.out.1.below b2).cell
  have f2 := (HW1.out.1.below b2).free
  obtain ⟨W2, hW2⟩ : ∃ W2, w2.setCell ⟨xb, 4, none⟩ (.slice (some ⟨g2, 0, none⟩) e.cn (e.cn + 90)) = W2 := ⟨_, rfl⟩
  rw [hW2] at HW2
  have hd3 := hand_full (c := e.ac) W2 (HL.out.below HW2.out.2.2.1).a HN.out.2.2
  have cx2 := HW2.out.1.cell
  clear hd2 r2 b2 cx1 HW1
  go_wp2_with fail
  clear hW2 c2 f2
  refine hd3.mono ?_
  rintro _ w3 ⟨g3, rfl, r3, b3⟩
  have HE : Hid (∀ W', Off (fun q => q = xb ∨ q = xb + 1) w3 W' → Hd W' w.heap.size g1 g2 g3 e ∧ Below w.heap.size w W') := fun W' ho => by
    have hxx := HXB.out
    have hs : xb + 2 ≤ W2.heap.size := by have := HW2.out.2.1.lt; omega
    have key : ∀ {g n : Nat} {bs : List Int}, Mkd w3 (xb + 2) g n bs → Mkd W' w.heap.size g n bs := fun hr => (hr.off ho (by have := hr.lt.1; omega)).base (by omega)
    have l2 := HW2.out.2.2.2.2.1.lt.2
    exact ⟨⟨key (HW2.out.2.2.2.1.below b3), key (HW2.out.2.2.2.2.1.below b3), key (r3.base hs), HW2.out.2.2.2.2.2, by have := r3.lt.1; omega⟩, (below_then HW2.out.2.2.1 b3).trans (ho.below (Nat.le_trans HW2.out.2.2.1.size b3.size) fun k hk => by omega)⟩
  have c3 := (HW2.out.1.below b3).cell
  have f3 := (HW2.out.1.below b3).free
  have c4 := (HW2.out.2.1.below b3).cell
  have f4 := (HW2.out.2.1.below b3).free
  clear hd3 r3 b3 cx2 HW2
  go_wp2_with fail
  refine bodyPost_ret ?_ rfl ⟨g1, g2, g3, rfl, HE.out _ ?_⟩
  · simp [results, Tryd.results7, go_sem, c4]
  · iterate 8 (refine Off.setCell ?_ (by first | exact Or.inl rfl | exact Or.inr rfl) _)
    exact Off.refl _ _
section
variable {w w' : World} {B g1 g2 g3 : Nat}
set_option maxRecDepth 100000 in
set_option maxHeartbeats 4000000 in
theorem kept_any (e : Ent) (h1 : Hd w B g1 g2 g3 e) (h2 : Lies w e) (n1 : e.tn + 90 ≤ 140737488355328) (n2 : e.cn + 90 ≤ 140737488355328) (n3 : e.an + 90 ≤ 140737488355328) :
    Calls Tryd.prog 12 #[.agg #[.string e.ct, .slice (some ⟨g1, 0, none⟩) e.tn (e.tn + 90), .int .i64 e.nu, .int .i64 e.tk, .slice (some ⟨g2, 0, none⟩) e.cn (e.cn + 90), .string e.cd, .slice (some ⟨g3, 0, none⟩) e.an (e.an + 90)], .agg #[.string e.ct, .slice e.tp e.tn e.tc, .int .i64 e.nu, .int .i64 e.tk, .slice e.cp e.cn e.cc, .string e.cd, .slice e.ap e.an e.ac]] w fun r w' => r = .returned (.bool true) ∧ Below w.heap.size w w' := by
  have bv : Below w.heap.size w ((w.alloc (.cells #[.string e.ct, .slice (some ⟨g1, 0, none⟩) e.tn (e.tn + 90), .int .i64 e.nu, .int .i64 e.tk, .slice (some ⟨g2, 0, none⟩) e.cn (e.cn + 90), .string e.cd, .slice (some ⟨g3, 0, none⟩) e.an (e.an + 90)] 30)).alloc (.cells #[.string e.ct, .slice e.tp e.tn e.tc, .int .i64 e.nu, .int .i64 e.tk, .slice e.cp e.cn e.cc, .string e.cd, .slice e.ap e.an e.ac] 30)) := ((Below.refl _ _).alloc (Nat.le_refl _) _).alloc (by simp) _
  have bx := (Box.new w #[.string e.ct, .slice (some ⟨g1, 0, none⟩) e.tn (e.tn + 90), .int .i64 e.nu, .int .i64 e.tk, .slice (some ⟨g2, 0, none⟩) e.cn (e.cn + 90), .string e.cd, .slice (some ⟨g3, 0, none⟩) e.an (e.an + 90)] 30).alloc (.cells #[.string e.ct, .slice e.tp e.tn e.tc, .int .i64 e.nu, .int .i64 e.tk, .slice e.cp e.cn e.cc, .string e.cd, .slice e.ap e.an e.ac] 30)
  have by_ := Box.new (w.alloc (.cells #[.string e.ct, .slice (some ⟨g1, 0, none⟩) e.tn (e.tn + 90), .int .i64 e.nu, .int .i64 e.tk, .slice (some ⟨g2, 0, none⟩) e.cn (e.cn + 90), .string e.cd, .slice (some ⟨g3, 0, none⟩) e.an (e.an + 90)] 30)) #[.string e.ct, .slice e.tp e.tn e.tc, .int .i64 e.nu, .int .i64 e.tk, .slice e.cp e.cn e.cc, .string e.cd, .slice e.ap e.an e.ac] 30
  rw [World.size_alloc] at by_
  obtain ⟨V, hV⟩ : ∃ V, ((w.alloc (.cells #[.string e.ct, .slice (some ⟨g1, 0, none⟩) e.tn (e.tn + 90), .int .i64 e.nu, .int .i64 e.tk, .slice (some ⟨g2, 0, none⟩) e.cn (e.cn + 90), .string e.cd, .slice (some ⟨g3, 0, none⟩) e.an (e.an + 90)] 30)).alloc (.cells #[.string e.ct, .slice e.tp e.tn e.tc, .int .i64 e.nu, .int .i64 e.tk, .slice e.cp e.cn e.cc, .string e.cd, .slice e.ap e.an e.ac] 30)) = V := ⟨_, rfl⟩
  rw [hV] at bv bx by_
  have HB : Hid (Below w.heap.size w V) := bv
  have HL : Hid (Hd V B g1 g2 g3 e ∧ Lies V e) := ⟨h1.below bv, h2.below bv⟩
  have s1 := Kept_true (c := e.tc) V HL.out.1.t HL.out.2.t n1
  have s2 : ∀ m, Calls Tryd.prog 33 #[.slice (some ⟨g2, 0, none⟩) e.cn (e.cn + 90), .slice e.cp e.cn e.cc] (V.drewN m) fun e w' => e = .returned (.bool true) ∧ ∃ k, w' = (V.drewN m).drewN k := fun m => Kept_true _ (HL.out.1.c.below (below_drewN (Below.refl _ _) m)) (HL.out.2.c.below (below_drewN (Below.refl _ _) m)) n2
  have s3 : ∀ m, Calls Tryd.prog 33 #[.slice (some ⟨g3, 0, none⟩) e.an (e.an + 90), .slice e.ap e.an e.ac] (V.drewN m) fun e w' => e = .returned (.bool true) ∧ ∃ k, w' = (V.drewN m).drewN k := fun m => Kept_true _ (HL.out.1.a.below (below_drewN (Below.refl _ _) m)) (HL.out.2.a.below (below_drewN (Below.refl _ _) m)) n3
  have cx := bx.cell
  have cy := by_.cell
  clear bv bx by_ h1 h2 n1 n2 n3
  go_enter Tryd.func12, Tryd.ntmps12
  go_wp2_with fail
  clear hV
  refine s1.mono ?_
  rintro _ w1 ⟨rfl, m1, rfl⟩
  have s2' := s2 m1
  clear s1 s2
  go_wp2_with fail
  refine s2'.mono ?_
  rintro _ w2 ⟨rfl, m2, rfl⟩
  rw [World.drewN_drewN]
  have s3' := s3 (m1 + m2)
  clear s2' s3
  go_wp2_with fail
  refine s3'.mono ?_
  rintro _ w3 ⟨rfl, m3, rfl⟩
  rw [World.drewN_drewN]
  clear s3'
  go_wp2_with fail
  go_ret
  exact ⟨rfl, below_drewN HB.out _⟩
theorem mkd_pre {g n : Nat} {bs : List Int} (h : Mkd w B g n bs) : BRow w B (.slice (some ⟨g, 0, none⟩) n (n + 90)) ((bs ++ marks).take n) := BRow.prefix (m := n) h.1 (by omega)
set_option maxRecDepth 100000 in
set_option maxHeartbeats 4000000 in
theorem turned_any (e : Ent) (h1 : Hd w B g1 g2 g3 e) :
    Calls Tryd.prog 13 #[.agg #[.string e.ct, .slice (some ⟨g1, 0, none⟩) e.tn (e.tn + 90), .int .i64 e.nu, .int .i64 e.tk, .slice (some ⟨g2, 0, none⟩) e.cn (e.cn + 90), .string e.cd, .slice (some ⟨g3, 0, none⟩) e.an (e.an + 90)]] w fun r w' => r = .returned (.tuple #[]) ∧ Hid (Off (fun q => q = g1 ∨ q = g2 ∨ q = g3) w w') := by
  have bv : Below w.heap.size w (w.alloc (.cells #[.string e.ct, .slice (some ⟨g1, 0, none⟩) e.tn (e.tn + 90), .int .i64 e.nu, .int .i64 e.tk, .slice (some ⟨g2, 0, none⟩) e.cn (e.cn + 90), .string e.cd, .slice (some ⟨g3, 0, none⟩) e.an (e.an + 90)] 30)) := (Below.refl _ _).alloc (Nat.le_refl _) _
  have bx := Box.new w #[.string e.ct, .slice (some ⟨g1, 0, none⟩) e.tn (e.tn + 90), .int .i64 e.nu, .int .i64 e.tk, .slice (some ⟨g2, 0, none⟩) e.cn (e.cn + 90), .string e.cd, .slice (some ⟨g3, 0, none⟩) e.an (e.an + 90)] 30
  obtain ⟨V, hV⟩ : ∃ V, w.alloc (.cells #[.string e.ct, .slice (some ⟨g1, 0, none⟩) e.tn (e.tn + 90), .int .i64 e.nu, .int .i64 e.tk, .slice (some ⟨g2, 0, none⟩) e.cn (e.cn + 90), .string e.cd, .slice (some ⟨g3, 0, none⟩) e.an (e.an + 90)] 30) = V := ⟨_, rfl⟩
  rw [hV] at bv bx
  obtain ⟨xb, hxb⟩ : ∃ xb, w.heap.size = xb := ⟨_, rfl⟩
  rw [hxb] at bx
  have HH : Hid (Hd V B g1 g2 g3 e ∧ Below w.heap.size w V ∧ Box V xb #[.string e.ct, .slice (some ⟨g1, 0, none⟩) e.tn (e.tn + 90), .int .i64 e.nu, .int .i64 e.tk, .slice (some ⟨g2, 0, none⟩) e.cn (e.cn + 90), .string e.cd, .slice (some ⟨g3, 0, none⟩) e.an (e.an + 90)] ∧ g1 < xb ∧ g2 < xb ∧ g3 < xb) := ⟨h1.below bv, bv, bx, by have := h1.t.lt.2; omega, by have := h1.c.lt.2; omega, by have := h1.a.lt.2; omega⟩
  have cx := bx.cell 1
  have ht1 := turn_any (mkd_pre HH.out.1.t)
  clear bv bx h1
  go_enter Tryd.func13, Tryd.ntmps13
  go_wp2_with fail
  clear hV
  refine ht1.mono ?_
  rintro _ w1 ⟨rfl, O1⟩
  have hm2 : Mkd w1 B g2 e.cn e.cx := HH.out.1.c.off O1.out (by have := HH.out.1.n1; omega)
  have hm3 : Mkd w1 B g3 e.an e.ax := HH.out.1.a.off O1.out (by have := HH.out.1.n1; have := HH.out.1.n2; omega)
  have HM3 : Hid (Mkd w1 B g3 e.an e.ax) := hm3
  have hb1 := HH.out.2.2.1.off O1.out (by have := HH.out.2.2.2.1; omega)
  have HB1 : Hid (Box w1 xb #[.string e.ct, .slice (some ⟨g1, 0, none⟩) e.tn (e.tn + 90), .int .i64 e.nu, .int .i64 e.tk, .slice (some ⟨g2, 0, none⟩) e.cn (e.cn + 90), .string e.cd, .slice (some ⟨g3, 0, none⟩) e.an (e.an + 90)]) := hb1
  have ht2 := turn_any (mkd_pre hm2)
  have cx1 := hb1.cell 4
  clear ht1 cx hm2 hm3 hb1
  go_wp2_with fail
  refine ht2.mono ?_
  rintro _ w2 ⟨rfl, O2⟩
  have hm3 : Mkd w2 B g3 e.an e.ax := HM3.out.off O2.out (by have := HH.out.1.n2; omega)
  have hb2 := HB1.out.off O2.out (by have := HH.out.2.2.2.2.1; omega)
  have ht3 := turn_any (mkd_pre hm3)
  have cx2 := hb2.cell 6
  clear ht2 cx1 hm3 hb2 HM3 HB1
  go_wp2_with fail
  refine ht3.mono ?_
  rintro _ w3 ⟨rfl, O3⟩
  have HZ : Hid (Off (fun q => q = g1 ∨ q = g2 ∨ q = g3) w w3) := Off.trans (Off.of_below HH.out.2.1) (Off.trans (O1.out.mono fun q h => Or.inl h) (Off.trans (O2.out.mono fun q h => Or.inr (Or.inl h)) (O3.out.mono fun q h => Or.inr (Or.inr h))))
  clear ht3 cx2
  go_wp2_with fail
  go_end0
  exact ⟨rfl, HZ⟩
end
end Go.Proofs.YtjbkfppibnlmoaaDoor
