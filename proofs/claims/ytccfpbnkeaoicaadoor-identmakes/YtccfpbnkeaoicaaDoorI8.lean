import Derived.Test.YtccfpbnkeaoicaaDoorI7
/-! ident: strings.CutPrefix at g; read. -/
namespace Go.Proofs.YtccfpbnkeaoicaaDoor
open Go Go.RowKit
def begG (s : ByteArray) : Bool := decide (1 ≤ s.size) && decide (byteAt s 0 = 103)
theorem extract_one {s : ByteArray} (h : 1 ≤ s.size) : s.extract 0 1 = ⟨#[byteAt s 0]⟩ := by
  refine ByteArray.ext (Array.ext ?_ ?_)
  · have : (s.extract 0 1).size = 1 := by simp [ByteArray.size_extract]; omega
    exact this
  · intro i h1 h2
    have h1' : i < (s.extract 0 1).size := h1
    have h2' : i < 1 := h2
    obtain rfl : i = 0 := by omega
    have e : (s.extract 0 1)[0] = s[0] := by rw [ByteArray.getElem_extract]
    have e2 := byteAt_eq (show 0 < s.size by omega)
    exact e.trans e2
set_option maxHeartbeats 1000000 in
theorem hasG (s : ByteArray) (hs : s.size ≤ 9223372036854775806) (w : World) : Calls Tryd.prog 46 #[.string s, .string ⟨#[103]⟩] w fun e w' => e = .returned (.bool (begG s)) ∧ w' = w := by
  by_cases h1 : 1 ≤ s.size
  · have d1 : decide ((1 : Int) ≤ (s.size : Int)) = true := by simp; omega
    have hx := extract_one h1
    have hfin : begG s = decide (byteAt s 0 = 103) := by unfold begG; simp [h1]
    rw [hfin]
    clear hfin
    go_enter Tryd.func46, Tryd.ntmps46
    go_wp2_with fail
    go_ret
    exact ⟨ret_bool (by rw [Bool.eq_iff_iff]; simp), rfl⟩
  · have d1 : decide ((1 : Int) ≤ (s.size : Int)) = false := by simp; omega
    have hfin : begG s = false := by unfold begG; simp; omega
    rw [hfin]
    go_enter Tryd.func46, Tryd.ntmps46
    go_wp2_with fail
    go_ret
    exact ⟨rfl, rfl⟩
def tailG (s : ByteArray) : ByteArray := if begG s then s.extract 1 s.size else s
set_option maxHeartbeats 1000000 in
theorem liteG (s : ByteArray) (hs : s.size ≤ 9223372036854775806) (w : World) : Calls Tryd.prog 43 #[.string s, .string ⟨#[103]⟩] w fun e w' => e = .returned (.tuple #[.string (tailG s), .bool (begG s)]) ∧ w' = w := by
  have hg := hid_of (hasG s hs w)
  have ht : Hid (tailG s = if begG s then s.extract 1 s.size else s) := rfl
  have h1 : begG s = true → 1 ≤ s.size := by unfold begG; simp; omega
  replace h1 := hid_of h1
  go_enter Tryd.func43, Tryd.ntmps43
  go_wp2_with fail
  refine hg.out.mono ?_
  rintro e w' ⟨rfl, rfl⟩
  clear hg
  cases hb : begG s
  · rw [hb, if_neg (by decide)] at ht
    go_wp2_with fail
    go_ret2
    exact ⟨by rw [ht.out, hb]; rfl, rfl⟩
  · rw [hb, if_pos rfl] at ht
    have h2 := h1.out hb
    go_wp2_with fail
    go_ret2
    exact ⟨by rw [ht.out, hb]; rfl, rfl⟩
theorem cutG (s : ByteArray) (hs : s.size ≤ 9223372036854775806) (w : World) : Calls Tryd.prog 34 #[.string s, .string ⟨#[103]⟩] w fun e w' => e = .returned (.tuple #[.string (tailG s), .bool (begG s)]) ∧ w' = w := by
  have hg := hid_of (liteG s hs w)
  go_enter Tryd.func34, Tryd.ntmps34
  go_wp2_with fail
  refine hg.out.mono ?_
  rintro e w' ⟨rfl, rfl⟩
  go_wp2_with fail
  go_ret2
  exact ⟨rfl, rfl⟩
def hexI (b : UInt8) : Int := Lib.indexByte hexes.data.toList b
def hexV (b : UInt8) : Nat := (hexI b).toNat
def hexOk (b : UInt8) : Bool := decide (0 ≤ hexI b)
/-- What the first so many digits tell. -/
def readTo (s : ByteArray) : Nat → Nat
  | 0 => 0
  | q + 1 => (readTo s q * 16 + hexV (byteAt s q)) % M64
theorem readTo_succ (s : ByteArray) (q : Nat) : readTo s (q + 1) = (readTo s q * 16 + hexV (byteAt s q)) % M64 := rfl
theorem read_lt (s : ByteArray) : ∀ q, readTo s q < M64
  | 0 => show 0 < M64 by decide
  | q + 1 => mod_lt64 _
def areHex (s : ByteArray) : Bool := decide (s.size = 16) && s.data.toList.all hexOk
def readN (s : ByteArray) : Nat := if areHex s then readTo s 16 else 0
theorem u8_back (b : UInt8) : ((b.toNat : Int).toNat.toUInt8) = b := by simp
theorem hexI_le (b : UInt8) : hexI b < 16 := by
  have h : ∀ n, n < 256 → Lib.indexByte hexes.data.toList (UInt8.ofNat n) < 16 := by decide +kernel
  have := h b.toNat (UInt8.toNat_lt b)
  rwa [UInt8.ofNat_toNat] at this
set_option maxHeartbeats 1000000 in
theorem readN_any (s : ByteArray) (w : World) : Calls Tryd.prog 35 #[.string s] w fun e w' => e = .returned (.tuple #[.int .u64 (readN s), .bool (areHex s)]) ∧ w' = w := by
  by_cases h1 : s.size = 16
  · have d1 : ((s.size : Int) == 16) = true := by rw [h1]; rfl
    go_enter Tryd.func35, Tryd.ntmps35
    go_wp2_with fail
    go_loopw [4, 12] (fun x i wr => ∃ q : Nat, q ≤ 16 ∧ x = .int .u64 (readTo s q : Nat) ∧ i = .int .i64 q ∧ wr = w ∧ Hid (∀ j, j < q → hexOk (byteAt s j) = true)) (fun _ i _ => 16 - (intOf i).toNat)
    case atStart => exact ⟨0, Nat.zero_le _, rfl, rfl, rfl, fun j h => by omega⟩
    case round =>
      obtain ⟨q, hq, rfl, rfl, rfl, hB⟩ := hrel
      by_cases hlt : q < 16
      · have hd : decide ((q : Int) < (s.size : Int)) = true := by simp; omega
        have he := byteAt_eq (show q < s.size by omega)
        have hI := hid_of (Tryd.strings_IndexByte hexes (byteAt s q).toNat wr)
        rw [u8_back, ← hexI] at hI
        go_wp2_with fail
        refine hI.out.mono ?_
        rintro e w' ⟨rfl, rfl⟩
        clear hI
        cases hb : hexOk (byteAt s q)
        · have hneg : decide (hexI (byteAt s q) < 0) = true := by
            unfold hexOk at hb
            simp at hb ⊢
            omega
          have hA : areHex s = false := by
            unfold areHex
            rw [all_false (show q < s.size by omega) hb]
            simp
          have hN : readN s = 0 := by unfold readN; rw [hA]; rfl
          clear hB hb
          go_wp2_with fail
          go_ret2
          exact ⟨by rw [hA, hN]; rfl, rfl⟩
        · have hneg : decide (hexI (byteAt s q) < 0) = false := by
            unfold hexOk at hb
            simp at hb ⊢
            omega
          have hN : Hid (∀ j, j < q + 1 → hexOk (byteAt s j) = true) := fun j h => by
            by_cases e : j = q
            · subst e; exact hb
            · exact hB.out j (by omega)
          have hV : Hid (hexI (byteAt s q) = ((hexV (byteAt s q) : Nat) : Int)) := by
            unfold hexOk at hb
            unfold hexV Hid
            simp at hb
            omega
          have hVl : Hid (hexV (byteAt s q) < M64) := by
            have := hexI_le (byteAt s q)
            unfold hexV Hid M64
            omega
          clear hB hb
          go_wp2_with fail
          go_roundw
          case rel => exact ⟨q + 1, by omega, int_val (by
            rw [hV.out, show (16 : Int) = ((16 : Nat) : Int) from rfl, w_mul, wrap_small hVl.out, w_add, Nat.mod_add_mod, readTo_succ]), by simp, by simp, hN⟩
          case measure => simp [intOf]; omega
      · have hd : decide ((q : Int) < (s.size : Int)) = false := by simp; omega
        obtain rfl : q = 16 := by omega
        have hA : areHex s = true := by
          unfold areHex
          rw [all_true (fun j h => hB.out j (by omega))]
          simp; omega
        have hN : readN s = readTo s 16 := by unfold readN; rw [hA]; rfl
        clear hB
        go_wp2_with fail
        go_ret2
        exact ⟨by rw [hA, hN]; rfl, rfl⟩
  · have d1 : ((s.size : Int) == 16) = false := by rw [show (16 : Int) = ((16 : Nat) : Int) from rfl, nat_beq]; simpa using h1
    have hA : areHex s = false := by unfold areHex; simp [h1]
    have hN : readN s = 0 := by unfold readN; rw [hA]; rfl
    rw [hA, hN]
    clear hA hN
    go_enter Tryd.func35, Tryd.ntmps35
    go_wp2_with fail
    go_ret2
    exact ⟨rfl, rfl⟩
end Go.Proofs.YtccfpbnkeaoicaaDoor
