/- One gate for each bit of two words, gates for input bits: in plain numbers. No condition. -/
import Derived.Test.YtkcknejkldhmaaaProg
import Derived.Test.YtkcknejkldhmaaaW1
namespace Go.Proofs.Ytkcknejkldhmaaa
open Go Go.RowKit
/-- One gate a bit. -/
def bitsAt (z : List Int) (q : Int) (us bs : List Int) : Nat → List Int × List Int
  | 0 => (z, [])
  | i + 1 =>
    let r := bitsAt z q us bs i
    (putG r.1 q (us.getD i 0) (bs.getD i 0), r.2 ++ [nG r.1])
/-- Input gates, from bit m * 4 on. -/
def inAt (z : List Int) (m : Int) : Nat → List Int × List Int
  | 0 => (z, [])
  | i + 1 =>
    let r := inAt z m i
    (putG r.1 1 (m * 4 + i) 0, r.2 ++ [nG r.1])
/-- The gates of a statement, and the word of its register. -/
def wordG (z : List Int) (rg : List (List Int)) (zero op a b c n : Int) : List Int × List Int :=
  if op = 1 then constAt z n 4 else if op = 2 then inAt z (a * 4 + n) 4 else
  if op = 3 then sumA z (rg.getD a.toNat []) (rg.getD b.toNat []) 0 3 else
  if op = 4 then sumA (notsAt z (rg.getD b.toNat []) 4).1 (rg.getD a.toNat []) (notsAt z (rg.getD b.toNat []) 4).2 1 3 else
  if op = 5 then mulAt z (rg.getD a.toNat []) (rg.getD b.toNat []) 3 else
  if op = 6 then bitsAt z 4 (rg.getD a.toNat []) (rg.getD b.toNat []) 4 else
  if op = 7 then bitsAt z 3 (rg.getD a.toNat []) (rg.getD b.toNat []) 4 else
  if op = 8 then ((lessA z (rg.getD a.toNat []) (rg.getD b.toNat [])).1, [(lessA z (rg.getD a.toNat []) (rg.getD b.toNat [])).2, zero, zero, zero]) else
  if op = 9 then ((equalA z (rg.getD a.toNat []) (rg.getD b.toNat [])).1, [(equalA z (rg.getD a.toNat []) (rg.getD b.toNat [])).2, zero, zero, zero]) else
  muxAt z ((rg.getD a.toNat []).getD 0 0) (rg.getD b.toNat []) (rg.getD c.toNat []) 4
theorem sumA_len4 (z us ws : List Int) (f : Int) : (sumA z us ws f 3).2.length = 4 := rfl
theorem bitsAt_len4 (z us ws : List Int) (q : Int) : (bitsAt z q us ws 4).2.length = 4 := rfl
theorem constAt_len4 (z : List Int) (n : Int) : (constAt z n 4).2.length = 4 := rfl
theorem inAt_len4 (z : List Int) (n : Int) : (inAt z n 4).2.length = 4 := rfl
theorem muxAt_len4 (z : List Int) (s : Int) (us ws : List Int) : (muxAt z s us ws 4).2.length = 4 := rfl
end Go.Proofs.Ytkcknejkldhmaaa
