/-
  stamp.Time.
-/
import Derived.Test.YtpcdkafjogpdkaaDoorRdTime
namespace Go.Proofs.YtpcdkafjogpdkaaDoor
open Go.RowKit

theorem rdr_new {w : World} {s : ByteArray} (hs : s.size ≤ maxLen) : Rdr (w.alloc (.cells #[.string s, .int .i64 0, .nilIface] 59)) w.heap.size s 0 none .nilIface :=
  ⟨by simp, by simp, by simp, rfl, by simp, by simp, Nat.zero_le _, hs⟩
theorem cs_new {w : World} {s : ByteArray} (hs : s.size ≤ maxLen) : CS ((w.alloc (.cells #[.string s, .int .i64 0, .nilIface] 59)).alloc (.cells #[.int .i64 0, .int .i64 0, .int .i64 0, .int .i64 0, .int .i64 0, .int .i64 0, .int .i64 0, .int .i64 0, .int .i64 0, .bool false, .int .i64 0] 23)) ((w.alloc (.cells #[.string s, .int .i64 0, .nilIface] 59)).alloc (.cells #[.int .i64 0, .int .i64 0, .int .i64 0, .int .i64 0, .int .i64 0, .int .i64 0, .int .i64 0, .int .i64 0, .int .i64 0, .bool false, .int .i64 0] 23)) w.heap.size (w.heap.size + 1) s 0 none 0 0 0 0 0 0 :=
  ⟨⟨_, (rdr_new hs).alloc _⟩, ⟨by simp, by simp, by simp, by simp, by simp, by simp, fun o _ => by simp⟩, ⟨fun _ _ => rfl, fun _ => rfl⟩, Off.refl _ _⟩
end Go.Proofs.YtpcdkafjogpdkaaDoor
