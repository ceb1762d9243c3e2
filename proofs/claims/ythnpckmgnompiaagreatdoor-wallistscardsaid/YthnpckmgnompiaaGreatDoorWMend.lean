/-
  The log's mend: what Open has to write.
-/
import Derived.Test.YthnpckmgnompiaaGreatDoorWEq
import Derived.Test.YthnpckmgnompiaaGreatDoorWOpenA
namespace Go.Proofs.YthnpckmgnompiaaGreatDoor
open Go.RowKit Go.BigFrame

/-- A step that is one in this world, whatever is still put behind it in its list. -/
def LiveS (w : World) (v : Value) (B K : Nat) (v0 v1 : Value) (o : Dop) (f : Nat) (caps : Array Value) : Prop :=
  ∃ (P : Nat → Prop) (y : World), Stq P B K v0 v1 o f caps y ∧ Off P y w ∧ ∀ g, v.ownBlock = some g → P g ∨ y.heap.size ≤ g
/-- A list of steps of one's own. -/
def SRow (w : World) (C B K : Nat) (v0 v1 v : Value) (os : List Dop) : Prop :=
  ∃ fs, VRow w C 80 v fs ∧ fs.length = os.length ∧ ∀ (i : Nat) (o : Dop), os[i]? = some o → ∃ f caps, fs[i]? = some (Value.func (.func f) #[] caps) ∧ LiveS w v B K v0 v1 o f caps
section
variable {x w : World} {C B K : Nat} {v0 v1 v : Value} {σ : Sg} {os : List Dop}
theorem SRow.nil (w : World) : SRow w C B K v0 v1 (.slice none 0 0) [] := ⟨[], VRow.nil _ _ _, rfl, fun i o h => by simp at h⟩
theorem SRow.below {w' : World} (h : SRow w C B K v0 v1 v os) (hb : Below w.heap.size w w') : SRow w' C B K v0 v1 v os := by
  obtain ⟨fs, hv, hl, hs⟩ := h
  refine ⟨fs, hv.off (Off.of_below (P := fun _ => False) hb) (fun _ _ => id), hl, fun i o ho => ?_⟩
  obtain ⟨f, caps, hf, P, y, h1, h2, h3⟩ := hs i o ho
  exact ⟨f, caps, hf, P, y, h1, h2.trans (Off.of_below hb), h3⟩
theorem SRow.lt (h : SRow w C B K v0 v1 v os) (k : Nat) (hk : v.ownBlock = some k) : k < w.heap.size := by
  obtain ⟨fs, hv, _⟩ := h
  exact (hv.lt hk).2
/-- One step more, behind the others. -/
theorem push_one {y : World} {o : Dop} {f : Nat} {caps : Array Value} (h : SRow w C B K v0 v1 v os) (hC : C ≤ w.heap.size) (hb : Below w.heap.size w y) (hst : Stq (fun k => v.ownBlock = some k) B K v0 v1 o f caps y) (hn : os.length ≤ 100) (ty : TypeId) :
    ∃ v' w', (Builtin.append_ #[85, 85] ty #[v, .slice (some ⟨y.heap.size, 0, none⟩) 1 1]).run Tryz.prog (y.alloc (.cells #[.func (.func f) #[] caps] 80)) = .ok v' w' ∧ SRow w' C B K v0 v1 v' (os ++ [o]) ∧ Below C w w' := by
  obtain ⟨fs, hv, hl, hs⟩ := h
  obtain ⟨i, hi, hm⟩ := Option.map_eq_some_iff.1 infoStep
  simp only [Prod.mk.injEq] at hm
  obtain ⟨m1, m2, m3⟩ := hm
  obtain ⟨z, hz, hzs⟩ := Option.map_eq_some_iff.1 m3
  have bY : Below y.heap.size y (y.alloc (.cells #[.func (.func f) #[] caps] 80)) := (Below.refl _ _).alloc (Nat.le_refl _) _
  have bw := below_then hb bY
  have hYs : (y.alloc (.cells #[.func (.func f) #[] caps] 80)).heap.size = y.heap.size + 1 := by simp
  obtain ⟨v', w', hrn, r, p⟩ := run_append_two (P := Tryz.prog) (y.alloc (.cells #[.func (.func f) #[] caps] 80)) C 85 ty 80 i z 8 Tryz.underlying85 hi hz m1 m2 hzs v fs (hv.off (Off.of_below (P := fun _ => False) bw) (fun _ _ => id)) ⟨y.heap.size, 0, none⟩ 1 1 [.func (.func f) #[] caps] rfl (fun j u hu => by rw [Addr.add_lit, Nat.zero_add, one_cell, ← hu]; simp) (fun u hu => by rw [List.mem_singleton] at hu; rw [hu]; rfl) (by unfold maxLen; omega) (by omega) (Nat.le_trans hC bw.size)
  have key : ∃ Q : Nat → Prop, Off Q (y.alloc (.cells #[.func (.func f) #[] caps] 80)) w' ∧ (∀ k, Q k → v.ownBlock = some k) ∧ ∀ g, v'.ownBlock = some g → v.ownBlock = some g ∨ y.heap.size + 1 ≤ g := by
    cases p with
    | same g cap e1 e2 hg =>
      subst e1
      subst e2
      exact ⟨_, Off.of_grown hg, fun k e => e, fun g' e => Or.inl e⟩
    | idle e1 e2 e3 => omega
    | fresh cap e1 hg e2 =>
      subst e1
      refine ⟨_, Off.of_grown hg, (fun k e => by cases e), fun g' e => Or.inr ?_⟩
      simp [Value.ownBlock] at e
      omega
  obtain ⟨Q, o1, o2, o3⟩ := key
  refine ⟨v', w', hrn, ⟨_, r, by simp [hl], fun j o' ho => ?_⟩, (Below.mono bw hC).trans (o1.below (Nat.le_trans hC bw.size) (fun k hk => (hv.lt (o2 k hk)).1))⟩
  by_cases hj : j < os.length
  · rw [List.getElem?_append_left hj] at ho
    obtain ⟨f', caps', hf, P, y0, h1, h2, h3⟩ := hs j o' ho
    refine ⟨f', caps', ?_, P, y0, h1, ?_, fun g hg => ?_⟩
    · rw [List.getElem?_append_left (by omega)]; exact hf
    · exact (h2.trans (Off.of_below bw)).join o1 (fun k hk hq => (h3 k (o2 k hq)).elim id (fun e => by omega))
    · have := h2.size
      have := bw.size
      exact (o3 g hg).elim (fun e => h3 g e) (fun e => Or.inr (by omega))
  · rw [List.getElem?_append_right (by omega)] at ho
    have hj0 : j = os.length := by
      by_cases h0 : j - os.length = 0
      · omega
      · rw [List.getElem?_eq_none (by simp; omega)] at ho; cases ho
    subst hj0
    simp at ho
    subst ho
    refine ⟨f, caps, by simp [← hl], _, y, hst, (Off.of_below bY).trans (o1.mono (fun k hq => o2 k hq)), fun g hg => (o3 g hg).imp id (fun e => by omega)⟩
/-- Such a list, played. -/
theorem SRow.at_ {g n c : Nat} (h : SRow w C B K v0 v1 (.slice (some ⟨g, 0, none⟩) n c) os) : StepsAt w B K g v0 v1 os := fun j o ho => by
  obtain ⟨fs, hv, hl, hs⟩ := h
  obtain ⟨f, caps, hf, P, y, h1, h2, _⟩ := hs j o ho
  exact ⟨f, caps, hv.slot hf, h1.1, h1.2 w h2⟩
theorem SRow.form (h : SRow w C B K v0 v1 v os) : (v = .slice none 0 0 ∧ os = []) ∨ ∃ g c, v = .slice (some ⟨g, 0, none⟩) os.length c ∧ C ≤ g := by
  obtain ⟨fs, hv, hl, hs⟩ := h
  rcases hv.form with ⟨e, rfl⟩ | ⟨g, c, e, hg, _⟩
  · exact Or.inl ⟨e, List.eq_nil_of_length_eq_zero (by rw [← hl]; rfl)⟩
  · exact Or.inr ⟨g, c, by rw [e, hl], hg⟩
end
/-- What Open has to write. -/
def mendOps (f0 f1 : Fnd) : List Dop := (if 0 < f1.sz then [.cut (1 - f0.g % 2) 0] else []) ++ (if f0.wh < f0.sz then [.cut (f0.g % 2) f0.wh] else []) ++ (if f0.sy < f0.wh then [.syn (f0.g % 2)] else [])
set_option maxRecDepth 100000 in
set_option maxHeartbeats 16000000 in
theorem mend_any {f0 f1 : Fnd} {x : World} {B K : Nat} {v0 v1 : Value} {σ : Sg} (h : DskS x B K v0 v1 σ) (hg : 0 ≤ f0.g) :
    Calls Tryz.prog 25 #[.pointer (some ⟨K, 0, none⟩), .agg f0.vals.toArray, .agg f1.vals.toArray] x fun e w' => ∃ v, e = .returned v ∧ SRow w' x.heap.size B K v0 v1 v (mendOps f0 f1) ∧ Below x.heap.size x w' := by
  obtain ⟨g0, sa0, sl0, sc0, ra0, rn0, rc0, sz0, sy0, wh0⟩ := f0
  obtain ⟨g1, sa1, sl1, sc1, ra1, rn1, rc1, sz1, sy1, wh1⟩ := f1
  simp only at hg
  simp only [Fnd.vals, mendOps]
  obtain ⟨W, hW⟩ : ∃ z, (x.alloc (.cells #[.int .u64 g0, .slice sa0 sl0 sc0, .slice ra0 rn0 rc0, .int .i64 sz0, .int .i64 sy0, .int .i64 wh0] 93)).alloc (.cells #[.int .u64 g1, .slice sa1 sl1 sc1, .slice ra1 rn1 rc1, .int .i64 sz1, .int .i64 sy1, .int .i64 wh1] 93) = z := ⟨_, rfl⟩
  have HWd : Hid ((x.alloc (.cells #[.int .u64 g0, .slice sa0 sl0 sc0, .slice ra0 rn0 rc0, .int .i64 sz0, .int .i64 sy0, .int .i64 wh0] 93)).alloc (.cells #[.int .u64 g1, .slice sa1 sl1 sc1, .slice ra1 rn1 rc1, .int .i64 sz1, .int .i64 sy1, .int .i64 wh1] 93) = W) := hW
  have hWs : W.heap.size = x.heap.size + 2 := by rw [← hW]; simp
  have bW : Below x.heap.size x W := by rw [← hW]; exact ((Below.refl _ _).alloc (Nat.le_refl _) _).alloc (by simp) _
  have cA : ∀ q, W.cell? ⟨x.heap.size, q, none⟩ = (#[Value.int .u64 g0, Value.slice sa0 sl0 sc0, Value.slice ra0 rn0 rc0, Value.int .i64 sz0, Value.int .i64 sy0, Value.int .i64 wh0] : Array Value)[q]? := fun q => by
    rw [← hW, World.cell?_alloc_lt _ _ ⟨x.heap.size, q, none⟩ (by simp)]
    exact World.cell?_alloc_new _ _ _ _
  have b3 : W.cell? ⟨x.heap.size + 1, 3, none⟩ = some (.int .i64 sz1) := by
    rw [← hW, show x.heap.size + 1 = (x.alloc (.cells #[.int .u64 g0, .slice sa0 sl0 sc0, .slice ra0 rn0 rc0, .int .i64 sz0, .int .i64 sy0, .int .i64 wh0] 93)).heap.size by simp]
    exact World.cell?_alloc_new _ _ _ _
  have HD : Hid (∀ y, Below W.heap.size W y → DskS y B K v0 v1 σ ∧ Below x.heap.size x y ∧ W.heap.size ≤ y.heap.size ∧ y.cell? ⟨x.heap.size, 3, none⟩ = some (.int .i64 sz0) ∧ y.cell? ⟨x.heap.size, 4, none⟩ = some (.int .i64 sy0) ∧ y.cell? ⟨x.heap.size, 5, none⟩ = some (.int .i64 wh0)) := fun y hy =>
    ⟨h.under (below_then bW hy), below_then bW hy, hy.size, below_cell hy (cA 3), below_cell hy (cA 4), below_cell hy (cA 5)⟩
  have hsub : IntKind.i64.wrap (1 - g0 % 2) = 1 - g0 % 2 := wrap_id (by omega) (by omega)
  have d0 : W.cell? ⟨x.heap.size, 0, none⟩ = some (.int .u64 g0) := cA 0
  have HB0 : Hid (Below W.heap.size W W) := Below.refl _ _
  have HS0 : Hid (SRow W W.heap.size B K v0 v1 (.slice none 0 0) []) := SRow.nil W
  obtain ⟨e3, e4, e5⟩ : W.cell? ⟨x.heap.size, 3, none⟩ = some (.int .i64 sz0) ∧ W.cell? ⟨x.heap.size, 4, none⟩ = some (.int .i64 sy0) ∧ W.cell? ⟨x.heap.size, 5, none⟩ = some (.int .i64 wh0) := ⟨cA 3, cA 4, cA 5⟩
  have Hlow : Hid (∀ (y : World) (v : Value) (os : List Dop), SRow y W.heap.size B K v0 v1 v os → SRow y x.heap.size B K v0 v1 v os) := fun y v os hs => by
    obtain ⟨fs, hv, r⟩ := hs
    exact ⟨fs, hv.low (by omega), r⟩
  clear h cA hW bW
  go_enter Tryz.func25, Tryz.ntmps25
  go_wp2_with fail
  refine (areaOf_any _ hg).mono ?_
  rintro e w1 ⟨rfl, hw1⟩
  rw [hw1, HWd.out]
  clear hw1 HWd
  by_cases c1 : 0 < sz1
  · have q1 : decide ((0 : Int) < (sz1 : Int)) = true := decide_eq_true (by omega)
    have q1' : (0 : Int) < (sz1 : Int) := by omega
    by_cases c2 : wh0 < sz0
    · have q2 : decide ((wh0 : Int) < (sz0 : Int)) = true := decide_eq_true (by omega)
      have q2' : (wh0 : Int) < (sz0 : Int) := by omega
      by_cases c3 : sy0 < wh0
      · have q3 : decide ((sy0 : Int) < (wh0 : Int)) = true := decide_eq_true (by omega)
        have q3' : (sy0 : Int) < (wh0 : Int) := by omega
        go_wp2_with fail
        refine (cut_p (P := fun k => Value.ownBlock (.slice none 0 0) = some k) (HD.out _ HB0.out).1 (fun k hk => HS0.out.lt k hk) (0)).mono ?_
        rintro e y1 ⟨f1, p1, rfl, hy1, hs1⟩
        obtain ⟨u1, w2, hr1, hS1, hB1⟩ := push_one HS0.out (HD.out _ HB0.out).2.2.1 hy1 hs1 (by simp) 85
        have HB1 : Hid (Below W.heap.size W w2) := HB0.out.trans hB1
        have HS1 : Hid (SRow w2 W.heap.size B K v0 v1 u1 ([] ++ [.cut (1 - g0 % 2) 0])) := hS1
        obtain ⟨e3, e4, e5⟩ := (HD.out _ HB1.out).2.2.2
        clear hS1 hB1 hs1 hy1
        go_wp2_with (at_builtin; refine wpList_append_run rfl (.tmp 15) (.tmp 20) 85 _ rfl hr1 ?_)
        refine (cut_p (P := fun k => Value.ownBlock u1 = some k) (HD.out _ HB1.out).1 (fun k hk => HS1.out.lt k hk) (wh0)).mono ?_
        rintro e y2 ⟨f2, p2, rfl, hy2, hs2⟩
        obtain ⟨u2, w3, hr2, hS2, hB2⟩ := push_one HS1.out (HD.out _ HB1.out).2.2.1 hy2 hs2 (by simp) 85
        have HB2 : Hid (Below W.heap.size W w3) := HB1.out.trans hB2
        have HS2 : Hid (SRow w3 W.heap.size B K v0 v1 u2 ([.cut (1 - g0 % 2) 0] ++ [.cut (g0 % 2) wh0])) := hS2
        obtain ⟨e3, e4, e5⟩ := (HD.out _ HB2.out).2.2.2
        clear hS2 hB2 hs2 hy2
        go_wp2_with (at_builtin; refine wpList_append_run rfl (.tmp 27) (.tmp 33) 85 _ rfl hr2 ?_)
        refine (syn_p (P := fun k => Value.ownBlock u2 = some k) (HD.out _ HB2.out).1 (fun k hk => HS2.out.lt k hk)).mono ?_
        rintro e y3 ⟨f3, p3, rfl, hy3, hs3⟩
        obtain ⟨u3, w4, hr3, hS3, hB3⟩ := push_one HS2.out (HD.out _ HB2.out).2.2.1 hy3 hs3 (by simp) 85
        have HB3 : Hid (Below W.heap.size W w4) := HB2.out.trans hB3
        have HS3 : Hid (SRow w4 W.heap.size B K v0 v1 u3 ([.cut (1 - g0 % 2) 0, .cut (g0 % 2) wh0] ++ [.syn (g0 % 2)])) := hS3
        obtain ⟨e3, e4, e5⟩ := (HD.out _ HB3.out).2.2.2
        clear hS3 hB3 hs3 hy3
        go_wp2_with (at_builtin; refine wpList_append_run rfl (.tmp 40) (.tmp 44) 85 _ rfl hr3 ?_)
        go_ret
        exact ⟨_, rfl, by simpa [c1, c2, c3] using Hlow.out _ _ _ HS3.out, (HD.out _ HB3.out).2.1⟩
      · have q3 : decide ((sy0 : Int) < (wh0 : Int)) = false := decide_eq_false (by omega)
        have q3' : ¬ (sy0 : Int) < (wh0 : Int) := by omega
        go_wp2_with fail
        refine (cut_p (P := fun k => Value.ownBlock (.slice none 0 0) = some k) (HD.out _ HB0.out).1 (fun k hk => HS0.out.lt k hk) (0)).mono ?_
        rintro e y1 ⟨f1, p1, rfl, hy1, hs1⟩
        obtain ⟨u1, w2, hr1, hS1, hB1⟩ := push_one HS0.out (HD.out _ HB0.out).2.2.1 hy1 hs1 (by simp) 85
        have HB1 : Hid (Below W.heap.size W w2) := HB0.out.trans hB1
        have HS1 : Hid (SRow w2 W.heap.size B K v0 v1 u1 ([] ++ [.cut (1 - g0 % 2) 0])) := hS1
        obtain ⟨e3, e4, e5⟩ := (HD.out _ HB1.out).2.2.2
        clear hS1 hB1 hs1 hy1
        go_wp2_with (at_builtin; refine wpList_append_run rfl (.tmp 15) (.tmp 20) 85 _ rfl hr1 ?_)
        refine (cut_p (P := fun k => Value.ownBlock u1 = some k) (HD.out _ HB1.out).1 (fun k hk => HS1.out.lt k hk) (wh0)).mono ?_
        rintro e y2 ⟨f2, p2, rfl, hy2, hs2⟩
        obtain ⟨u2, w3, hr2, hS2, hB2⟩ := push_one HS1.out (HD.out _ HB1.out).2.2.1 hy2 hs2 (by simp) 85
        have HB2 : Hid (Below W.heap.size W w3) := HB1.out.trans hB2
        have HS2 : Hid (SRow w3 W.heap.size B K v0 v1 u2 ([.cut (1 - g0 % 2) 0] ++ [.cut (g0 % 2) wh0])) := hS2
        obtain ⟨e3, e4, e5⟩ := (HD.out _ HB2.out).2.2.2
        clear hS2 hB2 hs2 hy2
        go_wp2_with (at_builtin; refine wpList_append_run rfl (.tmp 27) (.tmp 33) 85 _ rfl hr2 ?_)
        go_ret
        exact ⟨_, rfl, by simpa [c1, c2, c3] using Hlow.out _ _ _ HS2.out, (HD.out _ HB2.out).2.1⟩
    · have q2 : decide ((wh0 : Int) < (sz0 : Int)) = false := decide_eq_false (by omega)
      have q2' : ¬ (wh0 : Int) < (sz0 : Int) := by omega
      by_cases c3 : sy0 < wh0
      · have q3 : decide ((sy0 : Int) < (wh0 : Int)) = true := decide_eq_true (by omega)
        have q3' : (sy0 : Int) < (wh0 : Int) := by omega
        go_wp2_with fail
        refine (cut_p (P := fun k => Value.ownBlock (.slice none 0 0) = some k) (HD.out _ HB0.out).1 (fun k hk => HS0.out.lt k hk) (0)).mono ?_
        rintro e y1 ⟨f1, p1, rfl, hy1, hs1⟩
        obtain ⟨u1, w2, hr1, hS1, hB1⟩ := push_one HS0.out (HD.out _ HB0.out).2.2.1 hy1 hs1 (by simp) 85
        have HB1 : Hid (Below W.heap.size W w2) := HB0.out.trans hB1
        have HS1 : Hid (SRow w2 W.heap.size B K v0 v1 u1 ([] ++ [.cut (1 - g0 % 2) 0])) := hS1
        obtain ⟨e3, e4, e5⟩ := (HD.out _ HB1.out).2.2.2
        clear hS1 hB1 hs1 hy1
        go_wp2_with (at_builtin; refine wpList_append_run rfl (.tmp 15) (.tmp 20) 85 _ rfl hr1 ?_)
        refine (syn_p (P := fun k => Value.ownBlock u1 = some k) (HD.out _ HB1.out).1 (fun k hk => HS1.out.lt k hk)).mono ?_
        rintro e y2 ⟨f2, p2, rfl, hy2, hs2⟩
        obtain ⟨u2, w3, hr2, hS2, hB2⟩ := push_one HS1.out (HD.out _ HB1.out).2.2.1 hy2 hs2 (by simp) 85
        have HB2 : Hid (Below W.heap.size W w3) := HB1.out.trans hB2
        have HS2 : Hid (SRow w3 W.heap.size B K v0 v1 u2 ([.cut (1 - g0 % 2) 0] ++ [.syn (g0 % 2)])) := hS2
        obtain ⟨e3, e4, e5⟩ := (HD.out _ HB2.out).2.2.2
        clear hS2 hB2 hs2 hy2
        go_wp2_with (at_builtin; refine wpList_append_run rfl (.tmp 40) (.tmp 44) 85 _ rfl hr2 ?_)
        go_ret
        exact ⟨_, rfl, by simpa [c1, c2, c3] using Hlow.out _ _ _ HS2.out, (HD.out _ HB2.out).2.1⟩
      · have q3 : decide ((sy0 : Int) < (wh0 : Int)) = false := decide_eq_false (by omega)
        have q3' : ¬ (sy0 : Int) < (wh0 : Int) := by omega
        go_wp2_with fail
        refine (cut_p (P := fun k => Value.ownBlock (.slice none 0 0) = some k) (HD.out _ HB0.out).1 (fun k hk => HS0.out.lt k hk) (0)).mono ?_
        rintro e y1 ⟨f1, p1, rfl, hy1, hs1⟩
        obtain ⟨u1, w2, hr1, hS1, hB1⟩ := push_one HS0.out (HD.out _ HB0.out).2.2.1 hy1 hs1 (by simp) 85
        have HB1 : Hid (Below W.heap.size W w2) := HB0.out.trans hB1
        have HS1 : Hid (SRow w2 W.heap.size B K v0 v1 u1 ([] ++ [.cut (1 - g0 % 2) 0])) := hS1
        obtain ⟨e3, e4, e5⟩ := (HD.out _ HB1.out).2.2.2
        clear hS1 hB1 hs1 hy1
        go_wp2_with (at_builtin; refine wpList_append_run rfl (.tmp 15) (.tmp 20) 85 _ rfl hr1 ?_)
        go_ret
        exact ⟨_, rfl, by simpa [c1, c2, c3] using Hlow.out _ _ _ HS1.out, (HD.out _ HB1.out).2.1⟩
  · have q1 : decide ((0 : Int) < (sz1 : Int)) = false := decide_eq_false (by omega)
    have q1' : ¬ (0 : Int) < (sz1 : Int) := by omega
    by_cases c2 : wh0 < sz0
    · have q2 : decide ((wh0 : Int) < (sz0 : Int)) = true := decide_eq_true (by omega)
      have q2' : (wh0 : Int) < (sz0 : Int) := by omega
      by_cases c3 : sy0 < wh0
      · have q3 : decide ((sy0 : Int) < (wh0 : Int)) = true := decide_eq_true (by omega)
        have q3' : (sy0 : Int) < (wh0 : Int) := by omega
        go_wp2_with fail
        refine (cut_p (P := fun k => Value.ownBlock (.slice none 0 0) = some k) (HD.out _ HB0.out).1 (fun k hk => HS0.out.lt k hk) (wh0)).mono ?_
        rintro e y1 ⟨f1, p1, rfl, hy1, hs1⟩
        obtain ⟨u1, w2, hr1, hS1, hB1⟩ := push_one HS0.out (HD.out _ HB0.out).2.2.1 hy1 hs1 (by simp) 85
        have HB1 : Hid (Below W.heap.size W w2) := HB0.out.trans hB1
        have HS1 : Hid (SRow w2 W.heap.size B K v0 v1 u1 ([] ++ [.cut (g0 % 2) wh0])) := hS1
        obtain ⟨e3, e4, e5⟩ := (HD.out _ HB1.out).2.2.2
        clear hS1 hB1 hs1 hy1
        go_wp2_with (at_builtin; refine wpList_append_run rfl (.tmp 27) (.tmp 33) 85 _ rfl hr1 ?_)
        refine (syn_p (P := fun k => Value.ownBlock u1 = some k) (HD.out _ HB1.out).1 (fun k hk => HS1.out.lt k hk)).mono ?_
        rintro e y2 ⟨f2, p2, rfl, hy2, hs2⟩
        obtain ⟨u2, w3, hr2, hS2, hB2⟩ := push_one HS1.out (HD.out _ HB1.out).2.2.1 hy2 hs2 (by simp) 85
        have HB2 : Hid (Below W.heap.size W w3) := HB1.out.trans hB2
        have HS2 : Hid (SRow w3 W.heap.size B K v0 v1 u2 ([.cut (g0 % 2) wh0] ++ [.syn (g0 % 2)])) := hS2
        obtain ⟨e3, e4, e5⟩ := (HD.out _ HB2.out).2.2.2
        clear hS2 hB2 hs2 hy2
        go_wp2_with (at_builtin; refine wpList_append_run rfl (.tmp 40) (.tmp 44) 85 _ rfl hr2 ?_)
        go_ret
        exact ⟨_, rfl, by simpa [c1, c2, c3] using Hlow.out _ _ _ HS2.out, (HD.out _ HB2.out).2.1⟩
      · have q3 : decide ((sy0 : Int) < (wh0 : Int)) = false := decide_eq_false (by omega)
        have q3' : ¬ (sy0 : Int) < (wh0 : Int) := by omega
        go_wp2_with fail
        refine (cut_p (P := fun k => Value.ownBlock (.slice none 0 0) = some k) (HD.out _ HB0.out).1 (fun k hk => HS0.out.lt k hk) (wh0)).mono ?_
        rintro e y1 ⟨f1, p1, rfl, hy1, hs1⟩
        obtain ⟨u1, w2, hr1, hS1, hB1⟩ := push_one HS0.out (HD.out _ HB0.out).2.2.1 hy1 hs1 (by simp) 85
        have HB1 : Hid (Below W.heap.size W w2) := HB0.out.trans hB1
        have HS1 : Hid (SRow w2 W.heap.size B K v0 v1 u1 ([] ++ [.cut (g0 % 2) wh0])) := hS1
        obtain ⟨e3, e4, e5⟩ := (HD.out _ HB1.out).2.2.2
        clear hS1 hB1 hs1 hy1
        go_wp2_with (at_builtin; refine wpList_append_run rfl (.tmp 27) (.tmp 33) 85 _ rfl hr1 ?_)
        go_ret
        exact ⟨_, rfl, by simpa [c1, c2, c3] using Hlow.out _ _ _ HS1.out, (HD.out _ HB1.out).2.1⟩
    · have q2 : decide ((wh0 : Int) < (sz0 : Int)) = false := decide_eq_false (by omega)
      have q2' : ¬ (wh0 : Int) < (sz0 : Int) := by omega
      by_cases c3 : sy0 < wh0
      · have q3 : decide ((sy0 : Int) < (wh0 : Int)) = true := decide_eq_true (by omega)
        have q3' : (sy0 : Int) < (wh0 : Int) := by omega
        go_wp2_with fail
        refine (syn_p (P := fun k => Value.ownBlock (.slice none 0 0) = some k) (HD.out _ HB0.out).1 (fun k hk => HS0.out.lt k hk)).mono ?_
        rintro e y1 ⟨f1, p1, rfl, hy1, hs1⟩
        obtain ⟨u1, w2, hr1, hS1, hB1⟩ := push_one HS0.out (HD.out _ HB0.out).2.2.1 hy1 hs1 (by simp) 85
        have HB1 : Hid (Below W.heap.size W w2) := HB0.out.trans hB1
        have HS1 : Hid (SRow w2 W.heap.size B K v0 v1 u1 ([] ++ [.syn (g0 % 2)])) := hS1
        obtain ⟨e3, e4, e5⟩ := (HD.out _ HB1.out).2.2.2
        clear hS1 hB1 hs1 hy1
        go_wp2_with (at_builtin; refine wpList_append_run rfl (.tmp 40) (.tmp 44) 85 _ rfl hr1 ?_)
        go_ret
        exact ⟨_, rfl, by simpa [c1, c2, c3] using Hlow.out _ _ _ HS1.out, (HD.out _ HB1.out).2.1⟩
      · have q3 : decide ((sy0 : Int) < (wh0 : Int)) = false := decide_eq_false (by omega)
        have q3' : ¬ (sy0 : Int) < (wh0 : Int) := by omega
        go_wp2_with fail
        go_ret
        exact ⟨_, rfl, by simpa [c1, c2, c3] using Hlow.out _ _ _ HS0.out, (HD.out _ HB0.out).2.1⟩
end Go.Proofs.YthnpckmgnompiaaGreatDoor
