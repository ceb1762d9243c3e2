/-
  Records of the ledger as data, of no program: what is well, which bytes.
-/
import Derived.Test.YtdjjologpodnkaaGreatDoorIbBase
import Derived.Lib.AppendStr
namespace Go.Proofs.YtdjjologpodnkaaGreatDoor
open Go.RowKit

/-- A record. -/
structure Rec where
  kd : Int
  ct : ByteArray
  tp : Option Addr
  tn : Nat
  tc : Nat
  tx : List Int
  e : Bool
  a : Int
  p : Int
  nu : Int
  tk : Int
  st : Int
  cd : ByteArray
  cp : Option Addr
  cn : Nat
  cc : Nat
  cx : List Int
  ap : Option Addr
  an : Nat
  ac : Nat
  ax : List Int
def okB (e : Bool) (a p : Int) : Bool := decide (0 ≤ a ∧ a ≤ 3 ∧ 0 ≤ p ∧ p ≤ 3) && (e || (decide (a = 0) && decide (p = 0)))
def emB (s : ByteArray) : Bool := s.toList == []
def vdB (s : ByteArray) : Bool := s.toList == [65, 65] || s.toList == [65, 69] || s.toList == [65, 82]
def cdB (s : ByteArray) : Bool := vdB s || s.toList == [67, 65] || s.toList == [67, 69] || s.toList == [67, 82]
def cbB (c : Int) : Bool := (decide (48 ≤ c) && decide (c ≤ 57)) || (decide (65 ≤ c) && decide (c ≤ 90)) || (decide (97 ≤ c) && decide (c ≤ 122)) || decide (c = 46) || decide (c = 45)
def ctB (s : ByteArray) : Bool := decide (1 ≤ s.size) && decide (s.size ≤ 18) && s.data.toList.all (fun c => cbB (c.toNat : Int))
/-- What a text is asked besides: a control id, a verdict, a code, nothing. -/
def isS : Nat → ByteArray → Bool
  | 0, s => ctB s
  | 1, s => vdB s
  | 2, s => cdB s
  | _, s => emB s
/-- A field as it is passed. -/
inductive Fd where
  | num (o : Nat) (v : Int) (sz : Nat) (lo hi : Int)
  | str (o : Nat) (s : ByteArray) (lo hi : Int) (k : Nat)
  | byt (o : Nat) (a : Option Addr) (n c : Nat) (bs : List Int) (lo hi : Int)
  | cnd (e : Bool) (a p : Int)
  | non (b : Bool)
def fdWell : Fd → Bool
  | .num _ v _ lo hi => decide (lo ≤ v) && decide (v ≤ hi)
  | .str _ s lo hi k => (decide (lo ≤ (s.size : Int)) && decide ((s.size : Int) ≤ hi)) && isS k s
  | .byt _ _ n _ _ lo hi => decide (lo ≤ (n : Int)) && decide ((n : Int) ≤ hi)
  | .cnd e a p => okB e a p
  | .non b => b
/-- The bytes of a number, the highest first. -/
def byN (n : Int) (i : Nat) : Int := n / 2 ^ (8 * i) % 256
def numL (n : Int) : Nat → List Int
  | 0 => []
  | k + 1 => byN n k :: numL n k
def strI (s : ByteArray) : List Int := s.data.toList.map (fun c => (c.toNat : Int))
def bitI (b : Bool) : Int := if b = true then 1 else 0
def fdB : Fd → List Int
  | .num _ v sz _ _ => numL v sz
  | .str _ s _ _ _ => numL s.size 4 ++ strI s
  | .byt _ _ n _ bs _ _ => numL n 4 ++ bs
  | .cnd e a p => [bitI e, IntKind.u8.wrap a, IntKind.u8.wrap p]
  | .non _ => []
def fdOf (r : Rec) : Nat → Fd
  | 0 => .num 0 r.kd 1 1 8
  | 1 => if (r.kd == 7) = true then .non (emB r.ct) else .str 1 r.ct 1 18 0
  | 2 => if (r.kd == 1) = true then .byt 2 r.tp r.tn r.tc r.tx 1 8192 else if (r.kd == 5) = true then .byt 2 r.tp r.tn r.tc r.tx 1 8192 else .non ((r.tn : Int) == 0)
  | 3 => if (r.kd == 1) = true then .cnd r.e r.a r.p else .non (r.e == false && (r.a == 0 && r.p == 0))
  | 4 => if (r.kd == 2) = true then .num 6 r.nu 8 1 2147483647 else if (r.kd == 5) = true then .num 6 r.nu 8 0 2147483647 else if (r.kd == 7) = true then .num 6 r.nu 8 0 2147483647 else .non (r.nu == 0)
  | 5 => if (r.kd == 5) = true then .num 7 r.tk 8 0 1099511627776 else .non (r.tk == 0)
  | 6 => if (r.kd == 4) = true then .num 8 r.st 8 4 6 else .non (r.st == 0)
  | 7 => if (r.kd == 6) = true then .str 9 r.cd 2 2 1 else if (r.kd == 4) = true then (if (r.st == 4) = true then .str 9 r.cd 2 2 2 else .str 9 r.cd 0 0 3) else .non (emB r.cd)
  | 8 => if (r.kd == 5) = true then .byt 10 r.cp r.cn r.cc r.cx 0 2048 else .non ((r.cn : Int) == 0)
  | _ => if (r.kd == 6) = true then .byt 11 r.ap r.an r.ac r.ax 0 2048 else .non ((r.an : Int) == 0)
/-- Is field i well? -/
def wl (r : Rec) (i : Nat) : Bool := fdWell (fdOf r i)
/-- The first field at fault, from 1; 0: none. -/
def wrFrom (r : Rec) (i : Nat) : Nat → Nat
  | 0 => 0
  | k + 1 => if wl r i = true then wrFrom r (i + 1) k else i + 1
def wrR (r : Rec) : Nat := wrFrom r 0 10
/-- The bytes of the fields from i on. -/
def encFrom (r : Rec) (i : Nat) : Nat → List Int
  | 0 => []
  | k + 1 => fdB (fdOf r i) ++ encFrom r (i + 1) k
def encR (r : Rec) : List Int := encFrom r 0 10
theorem encFrom_snoc (r : Rec) : ∀ (k i : Nat), encFrom r i (k + 1) = encFrom r i k ++ fdB (fdOf r (i + k))
  | 0, i => by simp [encFrom]
  | k + 1, i => by
    rw [encFrom, encFrom_snoc r k (i + 1), encFrom, List.append_assoc, show i + 1 + k = i + (k + 1) by omega]
end Go.Proofs.YtdjjologpodnkaaGreatDoor
