/-
  The law's 'lives': what the document's examples fix.
-/
import Derived.Test.YtelhiihbgnfpiaaDoorIbLi
import Derived.Test.YtelhiihbgnfpiaaDoorIbTexts
namespace Go.Proofs.YtelhiihbgnfpiaaDoor
open Go.RowKit

abbrev nA : ByteArray := ⟨#[97]⟩
abbrev nB : ByteArray := ⟨#[98]⟩
abbrev nC : ByteArray := ⟨#[99]⟩
abbrev kAA : ByteArray := ⟨#[65, 65]⟩
/-- Where an entry's lists lie. -/
structure Ad where
  p : Option Addr
  c : Nat
  p' : Option Addr
  c' : Nat
  p'' : Option Addr
  c'' : Nat
/-- An entry of the example. -/
abbrev lvE (ct : ByteArray) (tk : Int) (A : Ad) : Ent := ⟨ct, A.p, 1, A.c, [120], 0, tk, A.p', 0, A.c', [], ⟨#[]⟩, A.p'', 0, A.c'', []⟩
abbrev lvD (ct : ByteArray) (tk : Int) (A : Ad) (n : Nat) (bs : List Int) : Ent := ⟨ct, A.p, 1, A.c, [120], 0, tk, A.p', 0, A.c', [], kAA, A.p'', n, A.c'', bs⟩
theorem key1 (x : UInt8) : KeyS ⟨#[x]⟩ := by unfold KeyS maxLen; simp [ByteArray.size]
theorem byts_x (w : World) (z : Int) : Byts (w.alloc (.cells #[.int .u8 z] 5 (1, 2))) (some ⟨w.heap.size, 0, none⟩) 1 [z] :=
  ⟨rfl, fun j hj => by
    obtain rfl : j = 0 := by omega
    refine ⟨w.heap.size, 0, rfl, by simp, ?_⟩
    unfold World.cell?
    rw [show (w.alloc (.cells #[.int .u8 z] 5 (1, 2))).heap[w.heap.size]? = some (.cells #[.int .u8 z] 5 (1, 2)) from heap_alloc_new _ _]
    rfl⟩
/-- An entry that plain makes. -/
abbrev plE (ct : ByteArray) (tk : Int) (b : Nat) : Ent := lvE ct tk ⟨some ⟨b, 0, none⟩, 1, none, 0, none, 0⟩
set_option maxRecDepth 100000 in
set_option maxHeartbeats 1000000 in
theorem plain_any (ct : ByteArray) (tk : Int) (w : World) : Calls Tryd.prog 11 #[.string ct, .int .i64 tk] w fun r w' => r = .returned (.agg #[.string ct, .slice (some ⟨w.heap.size + 1, 0, none⟩) 1 1, .int .i64 0, .int .i64 tk, .slice none 0 0, .string ⟨#[]⟩, .slice none 0 0]) ∧ Lies w' (plE ct tk (w.heap.size + 1)) ∧ Below w.heap.size w w' := by
  have bv : Below w.heap.size w (w.alloc (.cells #[.string ⟨#[]⟩, .slice none 0 0, .int .i64 0, .int .i64 0, .slice none 0 0, .string ⟨#[]⟩, .slice none 0 0] 35)) := (Below.refl _ _).alloc (Nat.le_refl _) _
  have bx := Box.new w #[.string ⟨#[]⟩, .slice none 0 0, .int .i64 0, .int .i64 0, .slice none 0 0, .string ⟨#[]⟩, .slice none 0 0] 35
  have hcv := Lib.run_convert_bytes_const (P := Tryd.prog) (w.alloc (.cells #[.string ⟨#[]⟩, .slice none 0 0, .int .i64 0, .int .i64 0, .slice none 0 0, .string ⟨#[]⟩, .slice none 0 0] 35)) 33 5 #[.int .u8 120] 1 1 Tryd.underlying33 Tryd.underlying5
  have hby := byts_x (w.alloc (.cells #[.string ⟨#[]⟩, .slice none 0 0, .int .i64 0, .int .i64 0, .slice none 0 0, .string ⟨#[]⟩, .slice none 0 0] 35)) 120
  rw [World.size_alloc] at hcv hby
  have b2 : Below (w.alloc (.cells #[.string ⟨#[]⟩, .slice none 0 0, .int .i64 0, .int .i64 0, .slice none 0 0, .string ⟨#[]⟩, .slice none 0 0] 35)).heap.size (w.alloc (.cells #[.string ⟨#[]⟩, .slice none 0 0, .int .i64 0, .int .i64 0, .slice none 0 0, .string ⟨#[]⟩, .slice none 0 0] 35)) ((w.alloc (.cells #[.string ⟨#[]⟩, .slice none 0 0, .int .i64 0, .int .i64 0, .slice none 0 0, .string ⟨#[]⟩, .slice none 0 0] 35)).alloc (.cells #[.int .u8 120] 5 (1, 2))) := (Below.refl _ _).alloc (Nat.le_refl _) _
  have bx2 := bx.below b2
  obtain ⟨V, hV⟩ : ∃ V, (w.alloc (.cells #[.string ⟨#[]⟩, .slice none 0 0, .int .i64 0, .int .i64 0, .slice none 0 0, .string ⟨#[]⟩, .slice none 0 0] 35)).alloc (.cells #[.int .u8 120] 5 (1, 2)) = V := ⟨_, rfl⟩
  rw [show (#[Value.int .u8 120] : Array Value).size = 1 from rfl] at hcv
  rw [hV] at hcv hby bx2
  have hb2 : Below w.heap.size w V := by rw [← hV]; exact below_then bv b2
  have cx := bx2.cell
  have fx := bx2.free
  have HE : Hid (∀ W', Off (fun q => q = w.heap.size) V W' → Lies W' (plE ct tk (w.heap.size + 1)) ∧ Below w.heap.size w W') := fun W' ho => by
    refine ⟨⟨?_, Byts.nil _ _, Byts.nil _ _⟩, hb2.trans (ho.below hb2.size fun k hk => by omega)⟩
    exact hby.off ho fun b o e _ e2 => by simp at e; try omega
  clear bv bx b2 bx2 hby hV hb2
  go_enter Tryd.func11, Tryd.ntmps11
  go_wp2_with fail
  refine bodyPost_ret ?_ rfl ⟨rfl, HE.out _ ?_⟩
  · simp [results, Tryd.results11, go_sem, cx]
  · iterate 7 (refine Off.setCell ?_ (by exact rfl) _)
    exact Off.refl _ _
section
variable {A1 A2 A3 A4 : Ad}
theorem lv1 (b : Nat) : accC 3 [] (plE nA 0 b) = 0 := by kernel_rfl
theorem lv2 (b : Nat) : accC 3 [lvE nA 0 A1] (plE nB 1 b) = 0 := by kernel_rfl
theorem lv3 (b : Nat) : accC 3 [lvE nA 0 A1, lvE nB 1 A2] (plE nC 1 b) = 0 := by kernel_rfl
theorem lv4 : fi nB [lvE nA 0 A1, lvE nB 1 A2, lvE nC 1 A3] = some 1 := by kernel_rfl
theorem lv5 (p : Option Addr) (c : Nat) : goneS 1 ([lvE nA 0 A1, lvE nB 1 A2, lvE nC 1 A3].set 1 ((lvE nB 1 A2).vd kAA p 1 c [121])) = [] := by kernel_rfl
theorem lv6 (p : Option Addr) (c : Nat) : shedS 1 ([lvE nA 0 A1, lvE nB 1 A2, lvE nC 1 A3].set 1 ((lvE nB 1 A2).vd kAA p 1 c [121])) = [lvE nA 0 A1, lvD nB 1 ⟨A2.p, A2.c, A2.p', A2.c', p, c⟩ 1 [121], lvE nC 1 A3] := by kernel_rfl
theorem lv7 : fi nC [lvE nA 0 A1, lvD nB 1 A2 1 [121], lvE nC 1 A3] = some 2 := by kernel_rfl
theorem lv8 (p : Option Addr) (c : Nat) : goneS 1 ([lvE nA 0 A1, lvD nB 1 A2 1 [121], lvE nC 1 A3].set 2 ((lvE nC 1 A3).vd kAA p 0 c [])) = [] := by kernel_rfl
theorem lv9 (p : Option Addr) (c : Nat) : shedS 1 ([lvE nA 0 A1, lvD nB 1 A2 1 [121], lvE nC 1 A3].set 2 ((lvE nC 1 A3).vd kAA p 0 c [])) = [lvE nA 0 A1, lvD nB 1 A2 1 [121], lvD nC 1 ⟨A3.p, A3.c, A3.p', A3.c', p, c⟩ 0 []] := by kernel_rfl
theorem lv10 : fi nA [lvE nA 0 A1, lvD nB 1 A2 1 [121], lvD nC 1 A3 0 []] = some 0 := by kernel_rfl
theorem lv11 (p : Option Addr) (c : Nat) : goneS 1 ([lvE nA 0 A1, lvD nB 1 A2 1 [121], lvD nC 1 A3 0 []].set 0 ((lvE nA 0 A1).vd kAA p 0 c [])) = [nA] := by kernel_rfl
theorem lv12 (p : Option Addr) (c : Nat) : shedS 1 ([lvE nA 0 A1, lvD nB 1 A2 1 [121], lvD nC 1 A3 0 []].set 0 ((lvE nA 0 A1).vd kAA p 0 c [])) = [lvD nB 1 A2 1 [121], lvD nC 1 A3 0 []] := by kernel_rfl
theorem lv13 : fi nB [lvD nB 1 A2 1 [121], lvD nC 1 A3 0 []] = some 0 := by kernel_rfl
theorem lv14 : fi nA [lvD nB 1 A2 1 [121], lvD nC 1 A3 0 []] = none := by kernel_rfl
end
end Go.Proofs.YtelhiihbgnfpiaaDoor
