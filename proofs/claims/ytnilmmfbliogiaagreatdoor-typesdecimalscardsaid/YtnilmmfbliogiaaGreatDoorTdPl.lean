/-
  The program's places.
-/
import Derived.Test.YtnilmmfbliogiaaGreatDoorTdRefu
import Derived.Deep.MidRow
namespace Go.Proofs.YtnilmmfbliogiaaGreatDoor
open Go.RowKit

theorem Hid.mk' {p : Prop} (h : p) : Hid p := h
def sgd (neg : Bool) (b : UInt8) : Int := (if neg then -1 else 1) * ((b.toNat : Int) - 48)
/-- The places with the first k digits in. -/
def plK (neg : Bool) (ds : List UInt8) (sc k : Nat) : List Int := List.replicate (16 + sc - ds.length) 0 ++ (ds.take k).map (sgd neg) ++ List.replicate (32 - (16 + sc - ds.length) - k) 0
theorem plK_0 (neg : Bool) (ds : List UInt8) (sc : Nat) (h1 : sc ≤ 16) (h2 : ds.length ≤ 16) : plK neg ds sc 0 = List.replicate 32 0 := by
  unfold plK
  simp only [List.take_zero, List.map_nil, List.append_nil, List.replicate_append_replicate]
  congr 1; omega
theorem plK_end (neg : Bool) (ds : List UInt8) (sc : Nat) (h1 : sc ≤ 16) (h2 : ds.length ≤ 16) : plK neg ds sc ds.length = plL neg ds sc := by
  unfold plK plL
  rw [List.take_length, show 32 - (16 + sc - ds.length) - ds.length = 16 - sc by omega]; rfl
theorem plK_len (neg : Bool) (ds : List UInt8) (sc k : Nat) (h1 : sc ≤ 16) (h2 : ds.length ≤ 16) (hk : k ≤ ds.length) : (plK neg ds sc k).length = 32 := by
  unfold plK; simp only [List.length_append, List.length_replicate, List.length_map, List.length_take]; omega
theorem plK_set (neg : Bool) (ds : List UInt8) (sc k : Nat) (b : UInt8) (h1 : sc ≤ 16) (h2 : ds.length ≤ 16) (hb : ds[k]? = some b) : plK neg ds sc (k + 1) = (plK neg ds sc k).set (16 + sc - ds.length + k) (sgd neg b) := by
  have hk := (List.getElem?_eq_some_iff.1 hb).1
  unfold plK
  rw [List.take_add_one, hb, List.set_append_right _ _ (by simp only [List.length_append, List.length_replicate, List.length_map, List.length_take]; omega)]
  simp only [List.length_append, List.length_replicate, List.length_map, List.length_take]
  rw [show 16 + sc - ds.length + k - (16 + sc - ds.length + min k ds.length) = 0 by omega]
  rw [show 32 - (16 + sc - ds.length) - k = (32 - (16 + sc - ds.length) - (k + 1)) + 1 by omega, List.replicate_succ]
  simp
abbrev iv (l : List Int) : List Value := l.map (Value.int .i64)
/-- The call's memory: the number, the result, the list. -/
structure PlI (w : World) (neg : Bool) (ds : ByteArray) (sc : Nat) (l : List Int) (wx : World) : Prop where
  bl : Below w.heap.size w wx
  nb : Box wx w.heap.size #[.bool neg, .string ds, .int .i64 (sc : Int)]
  rs : Box wx (w.heap.size + 1) (iv (List.replicate 32 0)).toArray
  li : Box wx (w.heap.size + 1 + 1) (iv l).toArray
theorem Box.pOff' {w : World} {b : Nat} {cs : Array Value} (h : Box w b cs) {p : Addr} (hp : p.block ≠ b) (v : Value) : Box (w.setCell p v) b cs := by
  refine ⟨by have := h.lt; simpa [World.setCell] using this, fun o => ?_, fun o => (World.frozen?_setCell _ _ _ _).trans (h.free o)⟩
  rw [World.cell?_setCell_other _ _ _ _ (fun e => hp (by rw [e])), h.cell o]
theorem PlI.put {w wx : World} {neg : Bool} {ds : ByteArray} {sc : Nat} {l : List Int} (h : PlI w neg ds sc l wx) (p : Nat) (hp : p < l.length) (v : Int) : PlI w neg ds sc (l.set p v) (wx.setCell ⟨w.heap.size + 1 + 1, p, none⟩ (.int .i64 v)) := by
  refine ⟨h.bl.setCell (p := ⟨w.heap.size + 1 + 1, p, none⟩) (by simp only; omega) _, h.nb.pOff' (by show w.heap.size + 1 + 1 ≠ w.heap.size; omega) _, h.rs.pOff' (by show w.heap.size + 1 + 1 ≠ w.heap.size + 1; omega) _, ?_⟩
  have := h.li.pPut (j := p) (by simp [iv]; exact hp) (.int .i64 v)
  have e : ((iv l).toArray).set! p (.int .i64 v) = (iv (l.set p v)).toArray := by
    simp [iv, List.map_set]
  rw [e] at this
  exact this
theorem zero32 : (iv (List.replicate 32 0)).toArray = #[.int .i64 0, .int .i64 0, .int .i64 0, .int .i64 0, .int .i64 0, .int .i64 0, .int .i64 0, .int .i64 0, .int .i64 0, .int .i64 0, .int .i64 0, .int .i64 0, .int .i64 0, .int .i64 0, .int .i64 0, .int .i64 0, .int .i64 0, .int .i64 0, .int .i64 0, .int .i64 0, .int .i64 0, .int .i64 0, .int .i64 0, .int .i64 0, .int .i64 0, .int .i64 0, .int .i64 0, .int .i64 0, .int .i64 0, .int .i64 0, .int .i64 0, .int .i64 0] := rfl
theorem PlI.new (w : World) (neg : Bool) (ds : ByteArray) (sc : Nat) (T : TypeId) : PlI w neg ds sc (List.replicate 32 0) (((w.alloc (.cells #[.bool neg, .string ds, .int .i64 (sc : Int)] 23)).alloc (.cells (iv (List.replicate 32 0)).toArray T)).alloc (.cells (iv (List.replicate 32 0)).toArray T)) := by
  refine ⟨(((Below.refl _ _).alloc (Nat.le_refl _) _).alloc (by simp) _).alloc (by simp; omega) _, ((Box.new _ _ _).alloc _).alloc _, ?_, ?_⟩
  · have := (Box.new (w.alloc (.cells #[.bool neg, .string ds, .int .i64 (sc : Int)] 23)) (iv (List.replicate 32 0)).toArray T).alloc (.cells (iv (List.replicate 32 0)).toArray T)
    simpa only [World.size_alloc] using this
  · have := Box.new ((w.alloc (.cells #[.bool neg, .string ds, .int .i64 (sc : Int)] 23)).alloc (.cells (iv (List.replicate 32 0)).toArray T)) (iv (List.replicate 32 0)).toArray T
    simpa only [World.size_alloc] using this
theorem below_setCells {B b : Nat} (hB : B ≤ b) : ∀ (vs : List Value) (o : Nat) {w x : World}, Below B w x → Below B w (x.setCells b o vs)
  | [], _, _, _, h => h
  | v :: r, o, _, _, h => below_setCells hB r (o + 1) (h.setCell (p := ⟨b, o, none⟩) hB v)
theorem one_all (l : List Int) : (iv l).toArray.all (·.oneCell') = true := by
  simp [iv]
  intro x _; rfl
set_option maxRecDepth 100000 in
set_option maxHeartbeats 4000000 in
theorem places_any (neg : Bool) (ds : ByteArray) (sc : Nat) (w : World) (hsc : sc ≤ 16) (hz : ds.size ≤ 16) (hd : dgs (bl ds) = true) : Calls Tryz.prog 23 #[.agg #[.bool neg, .string ds, .int .i64 (sc : Int)]] w fun r w' => r = .returned (.agg (iv (plL neg (bl ds) sc)).toArray) ∧ Below w.heap.size w w' := by
  obtain ⟨f, hf⟩ : ∃ f : Nat, f = 16 + sc - ds.size := ⟨_, rfl⟩
  have hfi : (16 : Int) + (sc : Int) - (ds.size : Int) = (f : Int) := by omega
  have HF : Hid (f = 16 + sc - ds.size) := hf
  clear hf
  have HI := PlI.new w neg ds sc 54
  rw [zero32] at HI
  obtain ⟨U, hU⟩ : ∃ U, (((w.alloc (.cells #[.bool neg, .string ds, .int .i64 (sc : Int)] 23)).alloc (.cells #[.int .i64 0, .int .i64 0, .int .i64 0, .int .i64 0, .int .i64 0, .int .i64 0, .int .i64 0, .int .i64 0, .int .i64 0, .int .i64 0, .int .i64 0, .int .i64 0, .int .i64 0, .int .i64 0, .int .i64 0, .int .i64 0, .int .i64 0, .int .i64 0, .int .i64 0, .int .i64 0, .int .i64 0, .int .i64 0, .int .i64 0, .int .i64 0, .int .i64 0, .int .i64 0, .int .i64 0, .int .i64 0, .int .i64 0, .int .i64 0, .int .i64 0, .int .i64 0] 54)).alloc (.cells #[.int .i64 0, .int .i64 0, .int .i64 0, .int .i64 0, .int .i64 0, .int .i64 0, .int .i64 0, .int .i64 0, .int .i64 0, .int .i64 0, .int .i64 0, .int .i64 0, .int .i64 0, .int .i64 0, .int .i64 0, .int .i64 0, .int .i64 0, .int .i64 0, .int .i64 0, .int .i64 0, .int .i64 0, .int .i64 0, .int .i64 0, .int .i64 0, .int .i64 0, .int .i64 0, .int .i64 0, .int .i64 0, .int .i64 0, .int .i64 0, .int .i64 0, .int .i64 0] 54)) = U := ⟨_, rfl⟩
  have HUe := Hid.mk' hU
  rw [hU] at HI
  have H0 : Hid (PlI w neg ds sc (plK neg (bl ds) sc 0) U) := by unfold Hid; rw [plK_0 _ _ _ hsc (by rw [bl_len]; exact hz)]; exact HI
  clear HI hU
  cases neg
  · go_enter Tryz.func23, Tryz.ntmps23
    go_wp2_with fail
    rw [HUe.out]
    go_loopw [19] (fun ti wx => ∃ k : Nat, k ≤ ds.size ∧ ti = .int .i64 k ∧ Hid (PlI w false ds sc (plK false (bl ds) sc k) wx)) (fun ti _ => ds.size - (intOf ti).toNat)
    case atStart => exact ⟨0, Nat.zero_le _, rfl, H0⟩
    case round =>
      obtain ⟨k, hk, rfl, HI⟩ := hrel
      by_cases hlt : k < ds.size
      · have hlti : (k : Int) < ds.size := by omega
        have kn := HI.out.nb.cell
        have hbt := bl_at hlt
        have hdg := dgs_all hd ds[k] (List.mem_of_getElem? hbt)
        have hdr := dg_yes hdg
        obtain ⟨p, hp⟩ : ∃ p : Nat, p = f + k := ⟨_, rfl⟩
        have hpi : (f : Int) + (k : Int) = (p : Int) := by omega
        have hp32 : p < 32 := by have := HF.out; omega
        have hp32i : (p : Int) < 32 := by omega
        have HP : Hid (p = f + k) := hp
        have hl := plK_len false (bl ds) sc k hsc (by rw [bl_len]; exact hz) (by rw [bl_len]; exact hk)
        obtain ⟨u, hu⟩ : ∃ u, wr.cell? ⟨w.heap.size + 1 + 1, p, none⟩ = some u := by
          rw [HI.out.li.cell p]
          exact ⟨_, Array.getElem?_eq_getElem (by simp [iv]; rw [hl]; exact hp32)⟩
        have hfr := HI.out.li.free p
        have hw8 : IntKind.u8.wrap ((ds[k].toNat : Int) - 48) = (ds[k].toNat : Int) - 48 := by rw [IntKind.wrap_u8]; omega
        have hw64 : IntKind.i64.wrap (1 * ((ds[k].toNat : Int) - 48)) = 1 * ((ds[k].toNat : Int) - 48) := by rw [IntKind.wrap_i64]; omega
        have hw64' : IntKind.i64.wrap ((ds[k].toNat : Int) - 48) = (ds[k].toNat : Int) - 48 := by rw [IntKind.wrap_i64]; omega
        have HI2 : Hid (PlI w false ds sc (plK false (bl ds) sc (k + 1)) (wr.setCell ⟨w.heap.size + 1 + 1, p, none⟩ (.int .i64 (sgd false ds[k])))) := by
          unfold Hid
          rw [plK_set false (bl ds) sc k ds[k] hsc (by rw [bl_len]; exact hz) hbt, bl_len, ← HF.out, ← HP.out]
          exact HI.out.put p (by rw [hl]; exact hp32) _
        clear hbt hdg hl hd hp
        go_wp2_with fail
        go_roundw
        case rel => exact ⟨k + 1, hlt, by go_num, (by first | exact HI2 | (unfold Hid; have := HI2.out; unfold sgd at this; simpa using this))⟩
        case measure => simp [intOf]; omega
      · have hlti : ¬ (k : Int) < ds.size := by omega
        obtain rfl : k = ds.size := by omega
        have HE : Hid (PlI w false ds sc (plL false (bl ds) sc) wr ∧ (iv (plL false (bl ds) sc)).length = 32) := by
          have e := plK_end false (bl ds) sc hsc (by rw [bl_len]; exact hz)
          rw [bl_len] at e
          refine ⟨by rw [← e]; exact HI.out, ?_⟩
          simp only [iv, List.length_map]
          exact pl_len _ _ _ (by rw [bl_len]; exact hz) hsc
        obtain ⟨L, hL⟩ : ∃ L, iv (plL false (bl ds) sc) = L := ⟨_, rfl⟩
        have hr : wr.rangeAt (w.heap.size + 1 + 1) 0 L := fun j v hj => by
          rw [Nat.zero_add, HE.out.1.li.cell j, hL]; simpa using hj
        have hth : wr.there (w.heap.size + 1) 0 L.length := fun j hj => by
          rw [Nat.zero_add, HE.out.1.rs.cell j]
          refine ⟨?_, HE.out.1.rs.free j⟩
          have : j < 32 := by have := HE.out.2; rw [hL] at this; omega
          simp [iv, this]
        have hsz : (Tryz.prog.info? 54).map (·.size) = some L.length := by
          rw [← hL, HE.out.2]; kernel_rfl
        have h1c : L.toArray.all (·.oneCell') = true := by rw [← hL]; exact one_all _
        have hth2 : wr.there (w.heap.size + 1) 0 L.toArray.size := by simpa using hth
        have hsz2 : (Tryz.prog.info? 54).map (·.size) = some L.toArray.size := by simpa using hsz
        have HR : Hid (Below w.heap.size w (wr.setCells (w.heap.size + 1) 0 L) ∧ (wr.setCells (w.heap.size + 1) 0 L).rangeAt (w.heap.size + 1) 0 L) := ⟨below_setCells (by omega) L 0 HE.out.1.bl, World.rangeAt_setCells_same _ _ _ _ hth⟩
        have HL : Hid (iv (plL false (bl ds) sc) = L) := hL
        clear hL
        go_wp2_with (first | (refine wpList_load_mid rfl 54 (.tmp 4) rfl (w.heap.size + 1 + 1) 0 rfl L _ hr Tryz.underlying54 rfl hsz ?_) | (refine wpList_store_mid rfl 54 (.tmp 2) (.tmp 35) rfl (w.heap.size + 1) 0 L.toArray rfl rfl hth2 hsz2 h1c ?_))
        refine bodyPost_ret (v := .agg L.toArray) ?_ rfl ⟨by rw [HL.out], by simpa using HR.out.1⟩
        have hlv := run_loadVar_mid (P := Tryz.prog) _ (w.heap.size + 1) 0 54 L _ HR.out.2 Tryz.underlying54 rfl hsz
        simp [results, Tryz.results23, asAddr]
        first | exact hlv | simpa using hlv
  · go_enter Tryz.func23, Tryz.ntmps23
    go_wp2_with fail
    rw [HUe.out]
    go_loopw [19] (fun ti wx => ∃ k : Nat, k ≤ ds.size ∧ ti = .int .i64 k ∧ Hid (PlI w true ds sc (plK true (bl ds) sc k) wx)) (fun ti _ => ds.size - (intOf ti).toNat)
    case atStart => exact ⟨0, Nat.zero_le _, rfl, H0⟩
    case round =>
      obtain ⟨k, hk, rfl, HI⟩ := hrel
      by_cases hlt : k < ds.size
      · have hlti : (k : Int) < ds.size := by omega
        have kn := HI.out.nb.cell
        have hbt := bl_at hlt
        have hdg := dgs_all hd ds[k] (List.mem_of_getElem? hbt)
        have hdr := dg_yes hdg
        obtain ⟨p, hp⟩ : ∃ p : Nat, p = f + k := ⟨_, rfl⟩
        have hpi : (f : Int) + (k : Int) = (p : Int) := by omega
        have hp32 : p < 32 := by have := HF.out; omega
        have hp32i : (p : Int) < 32 := by omega
        have HP : Hid (p = f + k) := hp
        have hl := plK_len true (bl ds) sc k hsc (by rw [bl_len]; exact hz) (by rw [bl_len]; exact hk)
        obtain ⟨u, hu⟩ : ∃ u, wr.cell? ⟨w.heap.size + 1 + 1, p, none⟩ = some u := by
          rw [HI.out.li.cell p]
          exact ⟨_, Array.getElem?_eq_getElem (by simp [iv]; rw [hl]; exact hp32)⟩
        have hfr := HI.out.li.free p
        have hw8 : IntKind.u8.wrap ((ds[k].toNat : Int) - 48) = (ds[k].toNat : Int) - 48 := by rw [IntKind.wrap_u8]; omega
        have hw64 : IntKind.i64.wrap ((-1) * ((ds[k].toNat : Int) - 48)) = (-1) * ((ds[k].toNat : Int) - 48) := by rw [IntKind.wrap_i64]; omega
        have hw64' : IntKind.i64.wrap ((ds[k].toNat : Int) - 48) = (ds[k].toNat : Int) - 48 := by rw [IntKind.wrap_i64]; omega
        have HI2 : Hid (PlI w true ds sc (plK true (bl ds) sc (k + 1)) (wr.setCell ⟨w.heap.size + 1 + 1, p, none⟩ (.int .i64 (sgd true ds[k])))) := by
          unfold Hid
          rw [plK_set true (bl ds) sc k ds[k] hsc (by rw [bl_len]; exact hz) hbt, bl_len, ← HF.out, ← HP.out]
          exact HI.out.put p (by rw [hl]; exact hp32) _
        clear hbt hdg hl hd hp
        go_wp2_with fail
        go_roundw
        case rel => exact ⟨k + 1, hlt, by go_num, (by first | exact HI2 | (unfold Hid; have := HI2.out; unfold sgd at this; simpa using this))⟩
        case measure => simp [intOf]; omega
      · have hlti : ¬ (k : Int) < ds.size := by omega
        obtain rfl : k = ds.size := by omega
        have HE : Hid (PlI w true ds sc (plL true (bl ds) sc) wr ∧ (iv (plL true (bl ds) sc)).length = 32) := by
          have e := plK_end true (bl ds) sc hsc (by rw [bl_len]; exact hz)
          rw [bl_len] at e
          refine ⟨by rw [← e]; exact HI.out, ?_⟩
          simp only [iv, List.length_map]
          exact pl_len _ _ _ (by rw [bl_len]; exact hz) hsc
        obtain ⟨L, hL⟩ : ∃ L, iv (plL true (bl ds) sc) = L := ⟨_, rfl⟩
        have hr : wr.rangeAt (w.heap.size + 1 + 1) 0 L := fun j v hj => by
          rw [Nat.zero_add, HE.out.1.li.cell j, hL]; simpa using hj
        have hth : wr.there (w.heap.size + 1) 0 L.length := fun j hj => by
          rw [Nat.zero_add, HE.out.1.rs.cell j]
          refine ⟨?_, HE.out.1.rs.free j⟩
          have : j < 32 := by have := HE.out.2; rw [hL] at this; omega
          simp [iv, this]
        have hsz : (Tryz.prog.info? 54).map (·.size) = some L.length := by
          rw [← hL, HE.out.2]; kernel_rfl
        have h1c : L.toArray.all (·.oneCell') = true := by rw [← hL]; exact one_all _
        have hth2 : wr.there (w.heap.size + 1) 0 L.toArray.size := by simpa using hth
        have hsz2 : (Tryz.prog.info? 54).map (·.size) = some L.toArray.size := by simpa using hsz
        have HR : Hid (Below w.heap.size w (wr.setCells (w.heap.size + 1) 0 L) ∧ (wr.setCells (w.heap.size + 1) 0 L).rangeAt (w.heap.size + 1) 0 L) := ⟨below_setCells (by omega) L 0 HE.out.1.bl, World.rangeAt_setCells_same _ _ _ _ hth⟩
        have HL : Hid (iv (plL true (bl ds) sc) = L) := hL
        clear hL
        go_wp2_with (first | (refine wpList_load_mid rfl 54 (.tmp 4) rfl (w.heap.size + 1 + 1) 0 rfl L _ hr Tryz.underlying54 rfl hsz ?_) | (refine wpList_store_mid rfl 54 (.tmp 2) (.tmp 35) rfl (w.heap.size + 1) 0 L.toArray rfl rfl hth2 hsz2 h1c ?_))
        refine bodyPost_ret (v := .agg L.toArray) ?_ rfl ⟨by rw [HL.out], by simpa using HR.out.1⟩
        have hlv := run_loadVar_mid (P := Tryz.prog) _ (w.heap.size + 1) 0 54 L _ HR.out.2 Tryz.underlying54 rfl hsz
        simp [results, Tryz.results23, asAddr]
        first | exact hlv | simpa using hlv
end Go.Proofs.YtnilmmfbliogiaaGreatDoor
