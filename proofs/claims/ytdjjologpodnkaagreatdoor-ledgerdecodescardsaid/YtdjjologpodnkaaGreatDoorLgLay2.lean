/-
  Texts and conditions laid as bytes.
-/
import Derived.Test.YtdjjologpodnkaaGreatDoorLgLay
namespace Go.Proofs.YtdjjologpodnkaaGreatDoor
open Go.RowKit

section
variable {P : Program} {w w' : World} {ops : Array Oper} {o : Oper} {a : Act} {K : Act → World → Prop} {Q : Exit → Act → World → Prop} {E : Prop}
theorem step_app_run2 (hgd : o.guard = none) (s x : Operand) (t u : TypeId) (ho : o.op = Op.call { callee := Callee.builtin Builtin.append, args := #[s, x], argTypes := #[t, u] }) {sv xv r : Value} (hs : a.eval s = sv) (hx : a.eval x = xv) (hr : (Builtin.append_ #[t, u] o.type #[sv, xv]).run P w = .ok r w') (h : K (a.put o.dst r) w') :
    if Region.wanted o (yielded ops a.tmps) = true then Oper.wp P o a w K Q else E := by
  have hw : Region.wanted o (yielded ops a.tmps) = true := by simp [Region.wanted, hgd]
  rw [if_pos hw]
  unfold Oper.wp execOp
  simp only [ho, resolve, invoke, builtin, Sem.run_bind, Sem.run_pure, Result.andThen_ok, List.map_toArray, List.map_cons, List.map_nil, hs, hx, hr]
  exact h
theorem step_app_run3 (hgd : o.guard = none) (s x : Operand) (t u : TypeId) (ho : o.op = Op.call { callee := Callee.builtin Builtin.append, args := #[s, x], argTypes := #[t, u] }) {sv xv r : Value} {W : World} (hW : w = W) (hs : a.eval s = sv) (hx : a.eval x = xv) (hr : (Builtin.append_ #[t, u] o.type #[sv, xv]).run P W = .ok r w') (h : K (a.put o.dst r) w') :
    if Region.wanted o (yielded ops a.tmps) = true then Oper.wp P o a w K Q else E := by
  subst hW
  exact step_app_run2 hgd s x t u ho hs hx hr h
end
theorem lay_end {w V z1 z2 : World} {B : Nat} {v0 : Value} {a1 a2 : Option Addr} {c1 c2 m : Nat} {bs xs ys : List Int} (hO : Off (fun q => v0.ownBlock = some q) V z2 → Off (fun q => v0.ownBlock = some q) w z2) (h1 : Off (fun q => v0.ownBlock = some q) V z1) (hob : OB v0 (.slice a1 (bs.length + 4) c1) V.heap.size) (hm : ys.length = m)
    (r2 : BRow z2 B (.slice a2 ((bs ++ xs).length + m) c2) (bs ++ xs ++ ys)) (o2 : Off (fun q => (Value.slice a1 (bs.length + 4) c1).ownBlock = some q) z1 z2) : LayQ w B v0 bs (xs ++ ys) (.returned (.slice a2 ((bs ++ xs).length + m) c2)) z2 := by
  refine ⟨a2, c2, ?_, ?_, hO (h1.join o2 fun q hq hp => ?_)⟩
  · rw [List.length_append, List.length_append, hm, Nat.add_assoc]
  · rw [show (xs ++ ys).length = xs.length + m by rw [List.length_append, hm], ← Nat.add_assoc, ← List.length_append, ← List.append_assoc]; exact r2
  · rcases hob q hp with g | g
    · exact g
    · omega
set_option maxRecDepth 100000 in
set_option maxHeartbeats 4000000 in
theorem byt_lay {w : World} {B : Nat} {v : Value} {bs : List Int} (Bk o : Nat) (po : Option Addr) (n c : Nat) (ys : List Int) (lo hi : Int) (f : FuncId) (h : BRow w B v bs) (hc : w.cell? ⟨Bk, o, none⟩ = some (.slice po n c)) (hBk : Bk < B) (hlw : Low w B po n ys) (hl : bs.length ≤ 1000000) (hn : n ≤ 100000) (hB : B ≤ w.heap.size) :
    Calls Tryz.prog 135 #[.agg #[.pointer (some ⟨Bk, o, none⟩), .int .i64 lo, .int .i64 hi, fv f], v] w (LayQ w B v bs (numL (n : Nat) 4 ++ ys)) := by
  have hb : Bk < w.heap.size := cell_lt hc
  have bv := (Below.refl w.heap.size w).alloc (Nat.le_refl _) (.cells #[.pointer (some ⟨Bk, o, none⟩), .int .i64 lo, .int .i64 hi, fv f] 146)
  have bx := Box.new w #[.pointer (some ⟨Bk, o, none⟩), .int .i64 lo, .int .i64 hi, fv f] 146
  have c1 := (bv.cell (p := ⟨Bk, o, none⟩) hb).trans hc
  obtain ⟨a0, c0, rfl, _⟩ := ERow.isSlice h
  have HN : Hid _ := layNumber_from (n : Nat) 4 (ERow.below h bv) (by omega) (by omega) (by omega) hl (Nat.le_trans hB bv.size)
  have hown : ∀ q, (Value.slice a0 bs.length c0).ownBlock = some q → B ≤ q ∧ q < w.heap.size := fun q hq => BRow.own h hq
  have hlv := hlw.below bv
  have hlen := hlw.byts.len
  go_enter Tryz.func135, Tryz.ntmps135
  go_wp2_with fail
  generalize w.alloc (.cells #[.pointer (some ⟨Bk, o, none⟩), .int .i64 lo, .int .i64 hi, fv f] 146) = V at bv bx c1 HN hlv ⊢
  obtain ⟨xb, hxb⟩ : ∃ xb, w.heap.size = xb := ⟨_, rfl⟩
  have hxV : xb < V.heap.size := by rw [← hxb]; exact bx.lt
  have hBV : B ≤ V.heap.size := Nat.le_trans hB bv.size
  have HO : Hid (∀ (P : Nat → Prop) V', Off P V V' → (∀ q, P q → (B ≤ q ∧ q < xb) ∨ V.heap.size ≤ q) → Box V' xb #[.pointer (some ⟨Bk, o, none⟩), .int .i64 lo, .int .i64 hi, fv f] ∧ V'.cell? ⟨Bk, o, none⟩ = some (.slice po n c) ∧ Low V' B po n ys) := fun P V' ho hP => by
    refine ⟨by rw [← hxb]; exact bx.off ho fun g => by have := hP _ g; omega, (ho.cell (p := ⟨Bk, o, none⟩) (cell_lt c1) (fun g => by have := hP _ g; have h3 := cell_lt c1; simp only at this h3; omega)).trans c1, hlv.off ho (fun q g => by have := hP _ g; omega)⟩
  have HO2 : Hid (∀ V', Off (fun q => (Value.slice a0 bs.length c0).ownBlock = some q) V V' → Off (fun q => (Value.slice a0 bs.length c0).ownBlock = some q) w V') := fun V' ho => (Off.of_below bv).join ho fun _ _ g => g
  have hP1 : ∀ q, (Value.slice a0 bs.length c0).ownBlock = some q → (B ≤ q ∧ q < xb) ∨ V.heap.size ≤ q := fun q hq => Or.inl (by rw [← hxb]; exact hown q hq)
  have k0 : V.cell? ⟨xb, 0, none⟩ = some (.pointer (some ⟨Bk, o, none⟩)) := by rw [← hxb]; exact bx.cell 0
  rw [hxb]
  have HP : Hid ((∀ q, (Value.slice a0 bs.length c0).ownBlock = some q → (B ≤ q ∧ q < xb) ∨ V.heap.size ≤ q) ∧ B ≤ V.heap.size ∧ bs.length ≤ 1000000 ∧ n ≤ 100000) := ⟨hP1, hBV, hl, hn⟩
  clear bv bx hxb hc hb h hown hB hBk hP1 hBV hl hn hlv hlw
  go_region_held3 (fun y => y.cell? ⟨xb, 0, none⟩ = some (.pointer (some ⟨Bk, o, none⟩)) ∧ y.cell? ⟨Bk, o, none⟩ = some (.slice po n c)) (simp [*]) (first | (go_at_call 116; refine (HN.out _ ?_).mono ?_; (first | exact Below.refl _ _ | exact Below.drew (Below.refl _ _)); rintro _ z1 ⟨a1, c1', rfl, H1⟩; have e0 : z1.cell? ⟨xb, 0, none⟩ = some (.pointer (some ⟨Bk, o, none⟩)) := ((HO.out _ _ H1.out.2.1 HP.out.1).1.cell 0); have e2 : z1.cell? ⟨Bk, o, none⟩ = some (.slice po n c) := ((HO.out _ _ H1.out.2.1 HP.out.1).2.1); skip) | (obtain ⟨a2, c2, z2, hr, r2, o2⟩ := run_app (B := B) c H1.out.1 (HO.out _ _ H1.out.2.1 HP.out.1).2.2.byts (by rw [List.length_append, numL_len]; have := HP.out.2.2; omega) (Nat.le_trans HP.out.2.1 H1.out.2.1.size); refine step_app_run2 rfl (.tmp 11) (.tmp 15) 22 22 rfl rfl rfl hr ?_; have HZ : Hid (∀ q, (Value.slice a1 (bs.length + 4) c1').ownBlock = some q → (B ≤ q ∧ q < xb) ∨ V.heap.size ≤ q) := (fun q hq => (by rcases H1.out.2.2 q hq with g | g; exact HP.out.1 q g; exact Or.inr g)); have o3 := (H1.out.2.1.mono (Q := fun q => (Value.slice a0 bs.length c0).ownBlock = some q ∨ (Value.slice a1 (bs.length + 4) c1').ownBlock = some q) (fun _ g => Or.inl g)).trans (o2.mono (fun _ g => Or.inr g)); have f0 := HO.out _ _ o3 (fun q g => g.elim (HP.out.1 q) (HZ.out q)); have e3 : z2.cell? ⟨xb, 0, none⟩ = some (.pointer (some ⟨Bk, o, none⟩)) := f0.1.cell 0; have e4 : z2.cell? ⟨Bk, o, none⟩ = some (.slice po n c) := f0.2.1; have HE : Hid (LayQ w B (.slice a0 bs.length c0) bs (numL (n : Nat) 4 ++ ys) (.returned (.slice a2 ((bs ++ numL (n : Nat) 4).length + n) c2)) z2) := (lay_end (HO2.out _) H1.out.2.1 H1.out.2.2 hlen r2 o2); clear o3 f0 r2 o2; skip))
  go_wp2_with fail
  go_ret
  have HE2 := HE.out
  rw [List.length_append] at HE2
  exact HE2
set_option maxRecDepth 100000 in
set_option maxHeartbeats 4000000 in
theorem str_lay {w : World} {B : Nat} {v : Value} {bs : List Int} (Bk o : Nat) (s : ByteArray) (lo hi : Int) (f : FuncId) (h : BRow w B v bs) (hc : w.cell? ⟨Bk, o, none⟩ = some (.string s)) (hBk : Bk < B)  (hl : bs.length ≤ 1000000) (hn : s.size ≤ 100000) (hB : B ≤ w.heap.size) :
    Calls Tryz.prog 131 #[.agg #[.pointer (some ⟨Bk, o, none⟩), .int .i64 lo, .int .i64 hi, fv f], v] w (LayQ w B v bs (numL (s.size : Nat) 4 ++ strI s)) := by
  have hb : Bk < w.heap.size := cell_lt hc
  have bv := (Below.refl w.heap.size w).alloc (Nat.le_refl _) (.cells #[.pointer (some ⟨Bk, o, none⟩), .int .i64 lo, .int .i64 hi, fv f] 139)
  have bx := Box.new w #[.pointer (some ⟨Bk, o, none⟩), .int .i64 lo, .int .i64 hi, fv f] 139
  have c1 := (bv.cell (p := ⟨Bk, o, none⟩) hb).trans hc
  obtain ⟨a0, c0, rfl, _⟩ := ERow.isSlice h
  have HN : Hid _ := layNumber_from (s.size : Nat) 4 (ERow.below h bv) (by omega) (by omega) (by omega) hl (Nat.le_trans hB bv.size)
  have hown : ∀ q, (Value.slice a0 bs.length c0).ownBlock = some q → B ≤ q ∧ q < w.heap.size := fun q hq => BRow.own h hq
  go_enter Tryz.func131, Tryz.ntmps131
  go_wp2_with fail
  generalize w.alloc (.cells #[.pointer (some ⟨Bk, o, none⟩), .int .i64 lo, .int .i64 hi, fv f] 139) = V at bv bx c1 HN ⊢
  obtain ⟨xb, hxb⟩ : ∃ xb, w.heap.size = xb := ⟨_, rfl⟩
  have hxV : xb < V.heap.size := by rw [← hxb]; exact bx.lt
  have hBV : B ≤ V.heap.size := Nat.le_trans hB bv.size
  have HO : Hid (∀ (P : Nat → Prop) V', Off P V V' → (∀ q, P q → (B ≤ q ∧ q < xb) ∨ V.heap.size ≤ q) → Box V' xb #[.pointer (some ⟨Bk, o, none⟩), .int .i64 lo, .int .i64 hi, fv f] ∧ V'.cell? ⟨Bk, o, none⟩ = some (.string s)) := fun P V' ho hP => by
    refine ⟨by rw [← hxb]; exact bx.off ho fun g => by have := hP _ g; omega, (ho.cell (p := ⟨Bk, o, none⟩) (cell_lt c1) (fun g => by have := hP _ g; have h3 := cell_lt c1; simp only at this h3; omega)).trans c1⟩
  have HO2 : Hid (∀ V', Off (fun q => (Value.slice a0 bs.length c0).ownBlock = some q) V V' → Off (fun q => (Value.slice a0 bs.length c0).ownBlock = some q) w V') := fun V' ho => (Off.of_below bv).join ho fun _ _ g => g
  have hP1 : ∀ q, (Value.slice a0 bs.length c0).ownBlock = some q → (B ≤ q ∧ q < xb) ∨ V.heap.size ≤ q := fun q hq => Or.inl (by rw [← hxb]; exact hown q hq)
  have k0 : V.cell? ⟨xb, 0, none⟩ = some (.pointer (some ⟨Bk, o, none⟩)) := by rw [← hxb]; exact bx.cell 0
  rw [hxb]
  have HP : Hid ((∀ q, (Value.slice a0 bs.length c0).ownBlock = some q → (B ≤ q ∧ q < xb) ∨ V.heap.size ≤ q) ∧ B ≤ V.heap.size ∧ bs.length ≤ 1000000 ∧ s.size ≤ 100000) := ⟨hP1, hBV, hl, hn⟩
  clear bv bx hxb hc hb h hown hB hBk hP1 hBV hl hn
  go_region_held3 (fun y => y.cell? ⟨xb, 0, none⟩ = some (.pointer (some ⟨Bk, o, none⟩)) ∧ y.cell? ⟨Bk, o, none⟩ = some (.string s)) (simp [*]) (first | (go_at_call 116; refine (HN.out _ ?_).mono ?_; (first | exact Below.refl _ _ | exact Below.drew (Below.refl _ _)); rintro _ z1 ⟨a1, c1', rfl, H1⟩; have e0 : z1.cell? ⟨xb, 0, none⟩ = some (.pointer (some ⟨Bk, o, none⟩)) := ((HO.out _ _ H1.out.2.1 HP.out.1).1.cell 0); have e2 : z1.cell? ⟨Bk, o, none⟩ = some (.string s) := ((HO.out _ _ H1.out.2.1 HP.out.1).2); skip) | (obtain ⟨a2, c2, z2, hr, r2, o2⟩ := run_apps (B := B) s H1.out.1 (by rw [List.length_append, numL_len]; have := HP.out.2.2; omega) (Nat.le_trans HP.out.2.1 H1.out.2.1.size); refine step_app_run2 rfl (.tmp 11) (.tmp 15) 22 9 rfl rfl rfl hr ?_; have HZ : Hid (∀ q, (Value.slice a1 (bs.length + 4) c1').ownBlock = some q → (B ≤ q ∧ q < xb) ∨ V.heap.size ≤ q) := (fun q hq => (by rcases H1.out.2.2 q hq with g | g; exact HP.out.1 q g; exact Or.inr g)); have o3 := (H1.out.2.1.mono (Q := fun q => (Value.slice a0 bs.length c0).ownBlock = some q ∨ (Value.slice a1 (bs.length + 4) c1').ownBlock = some q) (fun _ g => Or.inl g)).trans (o2.mono (fun _ g => Or.inr g)); have f0 := HO.out _ _ o3 (fun q g => g.elim (HP.out.1 q) (HZ.out q)); have e3 : z2.cell? ⟨xb, 0, none⟩ = some (.pointer (some ⟨Bk, o, none⟩)) := f0.1.cell 0; have e4 : z2.cell? ⟨Bk, o, none⟩ = some (.string s) := f0.2; have HE : Hid (LayQ w B (.slice a0 bs.length c0) bs (numL (s.size : Nat) 4 ++ strI s) (.returned (.slice a2 ((bs ++ numL (s.size : Nat) 4).length + s.size) c2)) z2) := (lay_end (HO2.out _) H1.out.2.1 H1.out.2.2 (strI_len s) r2 o2); clear o3 f0 r2 o2; skip))
  go_wp2_with fail
  go_ret
  have HE2 := HE.out
  rw [List.length_append] at HE2
  exact HE2
end Go.Proofs.YtdjjologpodnkaaGreatDoor
