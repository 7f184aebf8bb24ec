/- OpText, plain: what is pushed is told. -/
import Derived.Test.YtfcmcccfclaefaaDoorUn
namespace Go.Proofs.YtfcmcccfclaefaaDoor
open Go.RowKit Go.Maps Go.Shelf Mp

def wordB (wide : Bool) (w : Nat) : Nm := if wide then [97, UInt8.ofNat (w / 256), UInt8.ofNat (w % 256)] else [96, UInt8.ofNat (w % 256)]
def bytesW (wide : Bool) (ws : List Nat) : Nm := ws.flatMap (wordB wide)
def lowT (w : Nat) : Nm := [hexD (w / 16 % 16)] ++ [hexD (w % 16)]
def wantT (wide : Bool) (w : Nat) : Nm := if wide then [80, 85, 83, 72, 50, 32, 48, 120] ++ [hexD (w / 4096)] ++ [hexD (w / 256 % 16)] ++ lowT w else [80, 85, 83, 72, 49, 32, 48, 120] ++ lowT w
theorem info_p1 : infoOf (96 : UInt8).toNat = some ⟨[80, 85, 83, 72, 49], 3, 0, 1⟩ := by decide +kernel
theorem info_p2 : infoOf (97 : UInt8).toNat = some ⟨[80, 85, 83, 72, 50], 3, 0, 1⟩ := by decide +kernel
theorem info_1 : infoOf (1 : UInt8).toNat = some ⟨[65, 68, 68], 3, 2, 1⟩ := by decide +kernel
theorem info_12 : infoOf (12 : UInt8).toNat = none := by decide +kernel
theorem ofNat_lt {k : Nat} (h : k < 256) : (UInt8.ofNat k).toNat = k := by rw [UInt8.toNat_ofNat']; omega
theorem line_wide {w : Nat} (h : w < 65536) : lineP [97, UInt8.ofNat (w / 256), UInt8.ofNat (w % 256)] = wantT true w := by
  have e : lineP [97, UInt8.ofNat (w / 256), UInt8.ofNat (w % 256)] = [80, 85, 83, 72, 50] ++ [32, 48, 120] ++ hexT [UInt8.ofNat (w / 256), UInt8.ofNat (w % 256)] := by
    simp only [lineP, info_p2]
    rw [if_neg (by decide)]
  rw [e]
  simp only [hexT, List.flatMap_cons, List.flatMap_nil, ofNat_lt (show w / 256 < 256 by omega), ofNat_lt (show w % 256 < 256 by omega)]
  rw [show w / 256 / 16 = w / 4096 by omega, show w % 256 / 16 = w / 16 % 16 by omega, show w % 256 % 16 = w % 16 by omega]
  rfl
theorem line_low {w : Nat} : lineP [96, UInt8.ofNat (w % 256)] = wantT false w := by
  have e : lineP [96, UInt8.ofNat (w % 256)] = [80, 85, 83, 72, 49] ++ [32, 48, 120] ++ hexT [UInt8.ofNat (w % 256)] := by
    simp only [lineP, info_p1]
    rw [if_neg (by decide)]
  rw [e]
  simp only [hexT, List.flatMap_cons, List.flatMap_nil, ofNat_lt (show w % 256 < 256 by omega)]
  rw [show w % 256 / 16 = w / 16 % 16 by omega, show w % 256 % 16 = w % 16 by omega]
  rfl
theorem lines_words (wide : Bool) : ∀ (ws : List Nat) (a : Nat), (∀ w ∈ ws, w < 65536) → linesOf (insS a (bytesW wide ws ++ [1, 12])) = ws.map (wantT wide) ++ [[65, 68, 68], [63, 48, 99]]
  | [], a, _ => by
    show linesOf (insS a [1, 12]) = _
    rw [insS_cons]
    show linesOf ((a, [1]) :: insS (a + 1) [12]) = _
    rw [insS_cons]
    show linesOf [(a, [1]), (a + 1, [12])] ++ linesOf (insS (a + 1 + 1 + 0) []) = _
    rw [insS_nil]
    show [lineP [1], lineP [12]] = [[65, 68, 68], [63, 48, 99]]
    decide +kernel
  | w :: ws, a, h => by
    have ih := fun b => lines_words wide ws b (fun x hx => h x (by simp [hx]))
    have hw := h w (by simp)
    show linesOf (insS a ((wordB wide w ++ bytesW wide ws) ++ [1, 12])) = _
    rw [List.append_assoc]
    cases wide with
    | true =>
      show linesOf (insS a (97 :: ([UInt8.ofNat (w / 256), UInt8.ofNat (w % 256)] ++ (bytesW true ws ++ [1, 12])))) = _
      rw [insS_cons, show pushN (97 : UInt8).toNat = 2 from rfl]
      show lineP [97, UInt8.ofNat (w / 256), UInt8.ofNat (w % 256)] :: linesOf (insS (a + 1 + 2) (bytesW true ws ++ [1, 12])) = _
      rw [ih, line_wide hw]
      rfl
    | false =>
      show linesOf (insS a (96 :: ([UInt8.ofNat (w % 256)] ++ (bytesW false ws ++ [1, 12])))) = _
      rw [insS_cons, show pushN (96 : UInt8).toNat = 1 from rfl]
      show lineP [96, UInt8.ofNat (w % 256)] :: linesOf (insS (a + 1 + 1) (bytesW false ws ++ [1, 12])) = _
      rw [ih, line_low]
      rfl
theorem bytesW_len (wide : Bool) (ws : List Nat) : (bytesW wide ws).length ≤ 3 * ws.length := by
  induction ws with
  | nil => exact Nat.le_refl _
  | cons w ws ih =>
    show (wordB wide w ++ bytesW wide ws).length ≤ _
    rw [List.length_append, List.length_cons]
    have : (wordB wide w).length ≤ 3 := by cases wide <;> simp [wordB]
    omega
theorem bytesW_snoc (wide : Bool) {ws : List Nat} {i w : Nat} (h : ws[i]? = some w) : bytesW wide (ws.take (i + 1)) = bytesW wide (ws.take i) ++ wordB wide w := by
  rw [List.take_add_one, h]
  simp [bytesW]
end Go.Proofs.YtfcmcccfclaefaaDoor
