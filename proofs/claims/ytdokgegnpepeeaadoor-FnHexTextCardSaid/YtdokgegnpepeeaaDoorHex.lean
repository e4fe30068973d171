/- EncodeHex and DecodeHex and their models. -/
import Derived.Test.YtdokgegnpepeeaaDoorProg
import Derived.Test.YtdokgegnpepeeaaDoorDraw
namespace Go.Proofs.YtdokgegnpepeeaaDoor
open Go Go.RowKit
def hexL (l : List UInt8) : List UInt8 := l.flatMap fun c => [figB (c.toNat / 16), figB (c.toNat % 16)]
theorem elemU8 : Elem Tryd.prog 22 5 1 1 := ⟨Tryd.underlying22, by
  obtain ⟨i, hi, hz, h1, h2⟩ := info_parts (show (Tryd.prog.info? 5).map (fun i => (i.zero, i.size, i.bytes)) = some (some (.int .u8 0), 1, 1) by kernel_rfl)
  exact ⟨i, _, hi, hz, h1, h2, rfl⟩, by omega⟩
theorem fig_const : ∀ (n : Nat) (h : n < 16), (({ data := #[48, 49, 50, 51, 52, 53, 54, 55, 56, 57, 97, 98, 99, 100, 101, 102] } : ByteArray)[n]'h) = figB n := by decide
theorem fig_const' (x : Int) (m : Nat) (hx : x = (m : Int)) (hm : m < 16) (h : x.toNat < ({ data := #[48, 49, 50, 51, 52, 53, 54, 55, 56, 57, 97, 98, 99, 100, 101, 102] } : ByteArray).size) :
    ((({ data := #[48, 49, 50, 51, 52, 53, 54, 55, 56, 57, 97, 98, 99, 100, 101, 102] } : ByteArray)[x.toNat]'h).toNat : Int) = ((figB m).toNat : Int) := by
  subst hx
  exact congrArg (fun c : UInt8 => (c.toNat : Int)) (fig_const m hm)
theorem hex_step {w' : World} {B : Nat} {e : TypeId} {v : Value} {k : Nat} {l : List UInt8} {a b : Int} (hown : w'.ownsRow B e 1 v (2 * k + 2) (byteVals (hexL (l.take k)) ++ [.int .u8 a, .int .u8 b]))
    (hk : k < l.length) (ha : a = ((figB (l[k].toNat / 16)).toNat : Int)) (hb : b = ((figB (l[k].toNat % 16)).toNat : Int)) : w'.ownsRow B e 1 v (2 * (k + 1)) (byteVals (hexL (l.take (k + 1)))) := by
  have e1 : hexL (l.take (k + 1)) = hexL (l.take k) ++ [figB (l[k].toNat / 16), figB (l[k].toNat % 16)] := by
    rw [List.take_succ_eq_append_getElem hk]; unfold hexL; rw [List.flatMap_append]; rfl
  rw [e1, byteVals_append]
  subst ha hb
  exact hown

theorem byte_wraps (n : Nat) (h : n < 256) : IntKind.i64.wrap (n : Int) = n ∧ ((n : Int)).tdiv 16 = (n : Int) / 16 ∧ ((n : Int)).tmod 16 = (n : Int) % 16 ∧
    IntKind.i64.wrap ((n : Int) / 16) = (n : Int) / 16 ∧ IntKind.i64.wrap ((n : Int) % 16) = (n : Int) % 16 := by
  refine ⟨by rw [IntKind.wrap_i64]; omega, Int.tdiv_eq_ediv_of_nonneg (by omega), Int.tmod_eq_emod_of_nonneg (by omega), by rw [IntKind.wrap_i64]; omega, by rw [IntKind.wrap_i64]; omega⟩
theorem tn_div (n : Nat) : ((n : Int) / 16).toNat = n / 16 := by omega
theorem tn_mod (n : Nat) : ((n : Int) % 16).toNat = n % 16 := by omega

theorem impl_EncodeHex (s : ByteArray) (w : World) (hs : s.size ≤ 20000) :
    Calls Tryd.prog 10 #[.string s] w fun e w' => e = .returned (.tuple #[.string ⟨(hexL s.data.toList).toArray⟩, .bool true]) ∧ Below w.heap.size w w' := by
  have hd : decide ((20000 : Int) < (s.size : Int)) = false := by simp; omega
  go_enter Tryd.func10, Tryd.ntmps10
  go_wp2_with (first | (refine make_list elemU8 rfl _ _ rfl w.heap.size _ _ _ (2 * s.size) rfl rfl (by omega) (by omega) (by unfold maxLen; omega) (Nat.le_refl _) ?_))
  intro w1 hown1 hg1
  have hb1 : Below w.heap.size w w1 := (Below.refl _ _).grown hg1 (Nat.le_refl _) (fun k h => by cases h)
  generalize Value.slice (some { block := w.heap.size, off := 0 }) 0 (2 * s.size) = v0 at hown1 ⊢
  have Hhg := Lib.hid hg1; clear hg1
  go_wp2_with fail
  go_loopw [4, 15] (fun v i wr => ∃ k : Nat, k ≤ s.size ∧ i = .int .i64 k ∧ wr.ownsRow w.heap.size 5 1 v (2 * k) (byteVals (hexL (s.data.toList.take k))) ∧ Below w.heap.size w wr)
    (fun _ i _ => s.size - (intOf i).toNat)
  case atStart => exact ⟨0, Nat.zero_le _, rfl, hown1, hb1⟩
  case round =>
    obtain ⟨k, hk, rfl, hown, hb⟩ := hrel
    by_cases hlt : k < s.size
    · have hk0 : (0 : Int) ≤ k := by omega
      have hk1 : (k : Int) < s.size := by omega
      have hsz := hb.size
      have hc : s[k].toNat < 256 := s[k].toNat_lt
      have q0 : (0 : Int) ≤ (s[k].toNat : Int) / 16 := by omega
      have q1 : (s[k].toNat : Int) / 16 < 16 := by omega
      have r0 : (0 : Int) ≤ (s[k].toNat : Int) % 16 := by omega
      have r1 : (s[k].toNat : Int) % 16 < 16 := by omega
      have u1 : IntKind.u8.wrap ((s[k].toNat : Int) / 16) = (s[k].toNat : Int) / 16 := by rw [IntKind.wrap_u8]; omega
      have u2 : IntKind.u8.wrap ((s[k].toNat : Int) % 16) = (s[k].toNat : Int) % 16 := by rw [IntKind.wrap_u8]; omega
      have u3 : ((s[k].toNat : Int)).tmod 16 = (s[k].toNat : Int) % 16 := Int.tmod_eq_emod_of_nonneg (by omega)
      go_wp2_with fail
      go_region_law ((refine app_step (e' := 5) elemU8 (by rfl) _ _ (by rfl) w.heap.size u4 (2 * k) (byteVals (hexL (s.data.toList.take k))) (by rfl) ((hown.alloc _).drew) wr.heap.size 2 2 _ (0, 0) (by rfl) (heap_alloc_new wr _) (by rfl) (oneCell_u8 [_, _]) (by omega) (by unfold maxLen; omega) (by omega) (by simp; omega) (wr.heap.size + 1) (by simp) ?_; intro g cap w2 hown2 hgrow hat hgl))
      all_goals
        have hb2 : Below w.heap.size w w2 := below_own ((hb.alloc hsz _).drew) ((hown.alloc _).drew) hgrow (Nat.le_refl _) (by simp; omega)
        have hown3 := hex_step hown2 (by simpa using hlt) (fig_const' _ _ (by simp; rfl) (by have := (s.data.toList[k]'(by simpa using hlt)).toNat_lt; omega) _) (fig_const' _ _ (by simp; rfl) (by omega) _)
        go_wp2_with fail
        go_roundw
        case rel => exact ⟨k + 1, by omega, by go_num, hown3, hb2⟩
        case measure => simp [intOf]; omega
    · obtain rfl : k = s.size := by omega
      rw [take_all] at hown
      have hcv := conv_bytes (src := 22) (dst := 9) Tryd.underlying22 Tryd.underlying5 Tryd.underlying9 hown
      have Hown := Lib.hid hown
      clear hown
      go_wp2_with fail
      go_ret2
      exact ⟨rfl, hb⟩

theorem impl_EncodeHex_no (s : ByteArray) (w : World) (hs : 20000 < s.size) (hm : s.size ≤ 9223372036854775807) :
    Calls Tryd.prog 10 #[.string s] w fun e w' => e = .returned (.tuple #[.string ⟨#[]⟩, .bool false]) ∧ w = w' := by
  have hd : decide ((20000 : Int) < (s.size : Int)) = true := by simp; omega
  go_enter Tryd.func10, Tryd.ntmps10
  go_wp2_with fail
  go_ret2
  exact ⟨rfl, rfl⟩
end Go.Proofs.YtdokgegnpepeeaaDoor
