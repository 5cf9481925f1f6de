import Derived.Test.YtnccaidlcaeeaaaGreatDoorPM
import Derived.Test.YtnccaidlcaeeaaaGreatDoorX5
import Derived.Lib.QuoteBits
import Derived.Lib.RuneBytes
/-! The document's reader of texts: escapes. -/
namespace Go.Proofs.YtnccaidlcaeeaaaGreatDoor.Tree
open Go Go.RowKit

def hexZ (c : UInt8) : Int := match hexV c with | some d => (d : Int) | none => -1
set_option maxHeartbeats 4000000 in
set_option maxRecDepth 100000 in
theorem hex_code (c : UInt8) (w : World) : Calls Tryz.prog 100 #[.int .u8 (c.toNat : Int)] w fun x w' => x = .returned (.int .i64 (hexZ c)) ∧ w' = w := by
  have hlt := c.toNat_lt
  obtain ⟨H, hH⟩ : ∃ H, Hid (hexZ c = H) := ⟨_, hid_e rfl⟩
  rw [hH.out]
  unfold hexZ hexV at hH
  obtain ⟨z, hz⟩ : ∃ z : Nat, c.toNat = z := ⟨_, rfl⟩
  rw [hz] at hH hlt ⊢
  clear hz
  by_cases h1 : 48 ≤ z ∧ z ≤ 57
  · have hHe : Hid (H = (z : Int) - 48) := by rw [Hid, ← hH.out, if_pos h1]; simp only; omega
    clear hH
    obtain ⟨a1, a2⟩ := h1
    have b1 : (48 : Int) ≤ (z : Int) := by omega
    have b2 : (z : Int) ≤ 57 := by omega
    have b3 : IntKind.u8.wrap ((z : Int) - 48) = (z : Int) - 48 := by show ((z : Int) - 48) % 256 = _; omega
    have b4 : IntKind.i64.wrap ((z : Int) - 48) = (z : Int) - 48 := by have := Lib.wrap_i64_small (z - 48) (by omega); rw [show (((z - 48 : Nat) : Int)) = (z : Int) - 48 by omega] at this; exact this
    go_enter Tryz.func100, Tryz.ntmps100
    go_wp2_with fail
    go_ret
    exact ⟨by rw [hHe.out]; rfl, rfl⟩
  by_cases h2 : 97 ≤ z ∧ z ≤ 102
  · have hHe : Hid (H = (z : Int) - 97 + 10) := by rw [Hid, ← hH.out, if_neg h1, if_pos h2]; simp only; omega
    clear hH
    obtain ⟨a1, a2⟩ := h2
    have b0 : (48 : Int) ≤ (z : Int) := by omega
    have b0' : ¬ (z : Int) ≤ 57 := by omega
    have b1 : (97 : Int) ≤ (z : Int) := by omega
    have b2 : (z : Int) ≤ 102 := by omega
    have b3 : IntKind.u8.wrap ((z : Int) - 97) = (z : Int) - 97 := by show ((z : Int) - 97) % 256 = _; omega
    have b4 : IntKind.i64.wrap ((z : Int) - 97) = (z : Int) - 97 := by have := Lib.wrap_i64_small (z - 97) (by omega); rw [show (((z - 97 : Nat) : Int)) = (z : Int) - 97 by omega] at this; exact this
    have b5 : IntKind.i64.wrap ((z : Int) - 97 + 10) = (z : Int) - 97 + 10 := by have := Lib.wrap_i64_small (z - 87) (by omega); rw [show (((z - 87 : Nat) : Int)) = (z : Int) - 97 + 10 by omega] at this; exact this
    go_enter Tryz.func100, Tryz.ntmps100
    go_wp2_with fail
    go_ret
    exact ⟨by rw [hHe.out]; rfl, rfl⟩
  by_cases h3 : 65 ≤ z ∧ z ≤ 70
  · have hHe : Hid (H = (z : Int) - 65 + 10) := by rw [Hid, ← hH.out, if_neg h1, if_neg h2, if_pos h3]; simp only; omega
    clear hH
    obtain ⟨a1, a2⟩ := h3
    have b0 : (48 : Int) ≤ (z : Int) := by omega
    have b0' : ¬ (z : Int) ≤ 57 := by omega
    have b0'' : ¬ (97 : Int) ≤ (z : Int) := by omega
    have b1 : (65 : Int) ≤ (z : Int) := by omega
    have b2 : (z : Int) ≤ 70 := by omega
    have b3 : IntKind.u8.wrap ((z : Int) - 65) = (z : Int) - 65 := by show ((z : Int) - 65) % 256 = _; omega
    have b4 : IntKind.i64.wrap ((z : Int) - 65) = (z : Int) - 65 := by have := Lib.wrap_i64_small (z - 65) (by omega); rw [show (((z - 65 : Nat) : Int)) = (z : Int) - 65 by omega] at this; exact this
    have b5 : IntKind.i64.wrap ((z : Int) - 65 + 10) = (z : Int) - 65 + 10 := by have := Lib.wrap_i64_small (z - 55) (by omega); rw [show (((z - 55 : Nat) : Int)) = (z : Int) - 65 + 10 by omega] at this; exact this
    go_enter Tryz.func100, Tryz.ntmps100
    go_wp2_with fail
    go_ret
    exact ⟨by rw [hHe.out]; rfl, rfl⟩
  have hHe : Hid (H = -1) := by rw [Hid, ← hH.out, if_neg h1, if_neg h2, if_neg h3]
  clear hH
  go_enter Tryz.func100, Tryz.ntmps100
  go_wp2
  all_goals first
    | (go_ret; exact ⟨by rw [hHe.out]; rfl, rfl⟩)
    | (exfalso; omega)
def simpleS (c : Nat) : ByteArray := match unescN c with | some d => ⟨(encB d).toArray⟩ | none => ⟨#[]⟩
theorem conv_cells {w : World} {g : Nat} {l : List UInt8} (h : w.heap[g]? = some (.cells (l.map (fun b => Value.int .u8 (b.toNat : Int))).toArray 5 (0, 0))) (c : Nat) : (convert 62 9 (.slice (some ⟨g, 0, none⟩) l.length c)).run Tryz.prog w = .ok (.string ⟨l.toArray⟩) w := by
  refine run_convert_bytes_back w 62 9 5 ⟨g, 0, none⟩ c l Tryz.underlying62 Tryz.underlying5 Tryz.underlying9 (fun j hj => ?_)
  rw [add_off, Nat.zero_add]
  simp [World.cell?, h, hj]
set_option maxHeartbeats 4000000 in
set_option maxRecDepth 100000 in
theorem simple_code (c : UInt8) (w : World) : Calls Tryz.prog 77 #[.int .u8 (c.toNat : Int)] w fun x w' => x = .returned (.string (simpleS c.toNat)) ∧ Below w.heap.size w w' := by
  obtain ⟨H, hH⟩ : ∃ H, Hid (simpleS c.toNat = H) := ⟨_, hid_e rfl⟩
  rw [hH.out]
  have hcv := conv_cells (w := w.alloc (.cells #[.int .u8 (c.toNat : Int)] 5)) (g := w.heap.size) (l := [c]) (heap_alloc_new w _) 1
  simp only [List.length_cons, List.length_nil, Nat.zero_add] at hcv
  have hb : Below w.heap.size w (w.alloc (.cells #[.int .u8 (c.toNat : Int)] 5)) := (Below.refl _ w).alloc (Nat.le_refl _) _
  have hc8 : UInt8.ofNat c.toNat = c := UInt8.ofNat_toNat
  obtain ⟨z, hz⟩ : ∃ z : Nat, c.toNat = z := ⟨_, rfl⟩
  rw [hz] at hH hcv hb hc8 ⊢
  subst hc8
  clear hz
  by_cases h1 : z = 34
  · have hHe : Hid (H = ⟨[UInt8.ofNat z].toArray⟩) := by rw [Hid, ← hH.out, h1]; decide
    have k0 : ((z : Int) == 34) = true := by rw [h1]; rfl
    replace h1 := hid_e h1
    obtain ⟨y, hy⟩ : ∃ y : Int, (z : Int) = y := ⟨_, rfl⟩
    rw [hy] at hcv hb k0 ⊢
    go_enter Tryz.func77, Tryz.ntmps77
    go_wp2_with fail
    go_ret
    exact ⟨by rw [hHe.out]; rfl, hb⟩
  by_cases h2 : z = 92
  · have hHe : Hid (H = ⟨[UInt8.ofNat z].toArray⟩) := by rw [Hid, ← hH.out, h2]; decide
    have k0 : ((z : Int) == 92) = true := by rw [h2]; rfl
    have k1 : ((z : Int) == 34) = false := by simp; omega
    replace h2 := hid_e h2
    obtain ⟨y, hy⟩ : ∃ y : Int, (z : Int) = y := ⟨_, rfl⟩
    rw [hy] at hcv hb k0 k1 ⊢
    go_enter Tryz.func77, Tryz.ntmps77
    go_wp2_with fail
    go_ret
    exact ⟨by rw [hHe.out]; rfl, hb⟩
  by_cases h3 : z = 47
  · have hHe : Hid (H = ⟨[UInt8.ofNat z].toArray⟩) := by rw [Hid, ← hH.out, h3]; decide
    have k0 : ((z : Int) == 47) = true := by rw [h3]; rfl
    have k1 : ((z : Int) == 34) = false := by simp; omega
    have k2 : ((z : Int) == 92) = false := by simp; omega
    replace h3 := hid_e h3
    obtain ⟨y, hy⟩ : ∃ y : Int, (z : Int) = y := ⟨_, rfl⟩
    rw [hy] at hcv hb k0 k1 k2 ⊢
    go_enter Tryz.func77, Tryz.ntmps77
    go_wp2_with fail
    go_ret
    exact ⟨by rw [hHe.out]; rfl, hb⟩
  clear hcv hb
  by_cases h98 : z = 98
  · subst h98
    have hHe : Hid (H = ⟨#[8]⟩) := by rw [Hid, ← hH.out]; decide
    go_enter Tryz.func77, Tryz.ntmps77
    go_wp2_with fail
    go_ret
    exact ⟨by rw [hHe.out]; rfl, Below.refl _ _⟩
  by_cases h102 : z = 102
  · subst h102
    have hHe : Hid (H = ⟨#[12]⟩) := by rw [Hid, ← hH.out]; decide
    go_enter Tryz.func77, Tryz.ntmps77
    go_wp2_with fail
    go_ret
    exact ⟨by rw [hHe.out]; rfl, Below.refl _ _⟩
  by_cases h110 : z = 110
  · subst h110
    have hHe : Hid (H = ⟨#[10]⟩) := by rw [Hid, ← hH.out]; decide
    go_enter Tryz.func77, Tryz.ntmps77
    go_wp2_with fail
    go_ret
    exact ⟨by rw [hHe.out]; rfl, Below.refl _ _⟩
  by_cases h114 : z = 114
  · subst h114
    have hHe : Hid (H = ⟨#[13]⟩) := by rw [Hid, ← hH.out]; decide
    go_enter Tryz.func77, Tryz.ntmps77
    go_wp2_with fail
    go_ret
    exact ⟨by rw [hHe.out]; rfl, Below.refl _ _⟩
  by_cases h116 : z = 116
  · subst h116
    have hHe : Hid (H = ⟨#[9]⟩) := by rw [Hid, ← hH.out]; decide
    go_enter Tryz.func77, Tryz.ntmps77
    go_wp2_with fail
    go_ret
    exact ⟨by rw [hHe.out]; rfl, Below.refl _ _⟩
  have hHe : Hid (H = ⟨#[]⟩) := by
    rw [Hid, ← hH.out]
    unfold simpleS unescN
    rw [if_neg h1, if_neg h2, if_neg h3, if_neg h98, if_neg h102, if_neg h110, if_neg h114, if_neg h116]
  clear hH
  have k1 : ((z : Int) == 34) = false := by simp; omega
  have k2 : ((z : Int) == 92) = false := by simp; omega
  have k3 : ((z : Int) == 47) = false := by simp; omega
  have k4 : ((z : Int) == 98) = false := by simp; omega
  have k5 : ((z : Int) == 102) = false := by simp; omega
  have k6 : ((z : Int) == 110) = false := by simp; omega
  have k7 : ((z : Int) == 114) = false := by simp; omega
  have k8 : ((z : Int) == 116) = false := by simp; omega
  obtain ⟨y, hy⟩ : ∃ y : Int, (z : Int) = y := ⟨_, rfl⟩
  rw [hy] at k1 k2 k3 k4 k5 k6 k7 k8 ⊢
  go_enter Tryz.func77, Tryz.ntmps77
  go_wp2_with fail
  go_ret
  exact ⟨by rw [hHe.out]; rfl, Below.refl _ _⟩
end Go.Proofs.YtnccaidlcaeeaaaGreatDoor.Tree
/-! The document's reader of texts: characters as bytes, escapes. -/
namespace Go.Proofs.YtnccaidlcaeeaaaGreatDoor.Tree
open Go Go.RowKit

theorem conv_ints {w : World} {g : Nat} {zs : List Int} (h : w.heap[g]? = some (.cells (zs.map (fun z => Value.int .u8 z)).toArray 5 (0, 0))) (hz : ∀ z ∈ zs, 0 ≤ z ∧ z < 256) (c : Nat) : (convert 62 9 (.slice (some ⟨g, 0, none⟩) zs.length c)).run Tryz.prog w = .ok (.string ⟨(zs.map fun x => x.toNat.toUInt8).toArray⟩) w := by
  have e : zs.map (fun z => Value.int .u8 z) = (zs.map fun x => x.toNat.toUInt8).map (fun b => Value.int .u8 (b.toNat : Int)) := by
    rw [List.map_map]
    refine List.map_congr_left (fun z hm => ?_)
    have := hz z hm
    show Value.int .u8 z = Value.int .u8 ((z.toNat.toUInt8).toNat : Int)
    congr 1
    rw [Nat.toUInt8, UInt8.toNat_ofNat']
    omega
  rw [e] at h
  have := conv_cells h c
  rw [List.length_map] at this
  exact this
set_option maxHeartbeats 4000000 in
set_option maxRecDepth 100000 in
theorem utf_code (n : Nat) (hn : n ≤ 1114111) (hs : n < 55296 ∨ 57344 ≤ n) (w : World) : Calls Tryz.prog 79 #[.int .i64 (n : Int)] w fun x w' => x = .returned (.string ⟨(encB n).toArray⟩) ∧ Below w.heap.size w w' := by
  obtain ⟨H, hH⟩ : ∃ H : ByteArray, Hid ((⟨(encB n).toArray⟩ : ByteArray) = H) := ⟨_, hid_e rfl⟩
  rw [hH.out]
  unfold encB Lib.encodeRune at hH
  by_cases h1 : n < 128
  · have i1 : (n : Int) < 128 := by omega
    have b1 : IntKind.u8.wrap (n : Int) = (n : Int) := by show (n : Int) % 256 = _; omega
    rw [Lib.encodeRuneZ_one (by omega) (by omega)] at hH
    have hcv := conv_ints (w := w.alloc (.cells #[.int .u8 (n : Int)] 5)) (zs := [(n : Int)]) (heap_alloc_new w _) (fun z hz => by simp at hz; omega) 1
    rw [hH.out] at hcv
    simp only [List.length_cons, List.length_nil, Nat.zero_add] at hcv
    have hb : Below w.heap.size w (w.alloc (.cells #[.int .u8 (n : Int)] 5)) := (Below.refl _ w).alloc (Nat.le_refl _) _
    go_enter Tryz.func79, Tryz.ntmps79
    go_wp2_with fail
    go_ret
    exact ⟨rfl, hb⟩
  by_cases h2 : n < 2048
  · skip
    have i1 : ¬ (n : Int) < 128 := by omega
    have i2 : (n : Int) < 2048 := by omega
    rw [Lib.encodeRuneZ_two (by omega) (by omega)] at hH
    have b0 : IntKind.u8.wrap (192 + (n : Int) / 64) = 192 + (n : Int) / 64 := by show (192 + (n : Int) / 64) % 256 = _; omega
    have b1 : IntKind.u8.wrap (128 + (n : Int) % 64) = 128 + (n : Int) % 64 := by show (128 + (n : Int) % 64) % 256 = _; omega
    have hcv := conv_ints (w := w.alloc (.cells #[.int .u8 (192 + (n : Int) / 64), .int .u8 (128 + (n : Int) % 64)] 5)) (zs := [192 + (n : Int) / 64, 128 + (n : Int) % 64]) (heap_alloc_new w _) (fun z hz => by simp only [List.mem_cons, List.not_mem_nil, or_false] at hz; omega) 2
    rw [hH.out] at hcv
    simp only [List.length_cons, List.length_nil, Nat.zero_add, Nat.reduceAdd] at hcv
    have hb : Below w.heap.size w (w.alloc (.cells #[.int .u8 (192 + (n : Int) / 64), .int .u8 (128 + (n : Int) % 64)] 5)) := (Below.refl _ w).alloc (Nat.le_refl _) _
    go_enter Tryz.func79, Tryz.ntmps79
    go_wp2_with fail
    go_ret
    exact ⟨rfl, hb⟩
  by_cases h3 : n < 65536
  · skip
    have i1 : ¬ (n : Int) < 128 := by omega
    have i2 : ¬ (n : Int) < 2048 := by omega
    have i3 : (n : Int) < 65536 := by omega
    rw [Lib.encodeRuneZ_three (by omega)] at hH
    have b0 : IntKind.u8.wrap (224 + (n : Int) / 4096) = 224 + (n : Int) / 4096 := by show (224 + (n : Int) / 4096) % 256 = _; omega
    have b1 : IntKind.u8.wrap (128 + (n : Int) / 64 % 64) = 128 + (n : Int) / 64 % 64 := by show (128 + (n : Int) / 64 % 64) % 256 = _; omega
    have b2 : IntKind.u8.wrap (128 + (n : Int) % 64) = 128 + (n : Int) % 64 := by show (128 + (n : Int) % 64) % 256 = _; omega
    have hcv := conv_ints (w := w.alloc (.cells #[.int .u8 (224 + (n : Int) / 4096), .int .u8 (128 + (n : Int) / 64 % 64), .int .u8 (128 + (n : Int) % 64)] 5)) (zs := [224 + (n : Int) / 4096, 128 + (n : Int) / 64 % 64, 128 + (n : Int) % 64]) (heap_alloc_new w _) (fun z hz => by simp only [List.mem_cons, List.not_mem_nil, or_false] at hz; omega) 3
    rw [hH.out] at hcv
    simp only [List.length_cons, List.length_nil, Nat.zero_add, Nat.reduceAdd] at hcv
    have hb : Below w.heap.size w (w.alloc (.cells #[.int .u8 (224 + (n : Int) / 4096), .int .u8 (128 + (n : Int) / 64 % 64), .int .u8 (128 + (n : Int) % 64)] 5)) := (Below.refl _ w).alloc (Nat.le_refl _) _
    go_enter Tryz.func79, Tryz.ntmps79
    go_wp2_with fail
    go_ret
    exact ⟨rfl, hb⟩
  · skip
    have i1 : ¬ (n : Int) < 128 := by omega
    have i2 : ¬ (n : Int) < 2048 := by omega
    have i3 : ¬ (n : Int) < 65536 := by omega
    rw [Lib.encodeRuneZ_four (by omega) (by omega)] at hH
    have b0 : IntKind.u8.wrap (240 + (n : Int) / 262144) = 240 + (n : Int) / 262144 := by show (240 + (n : Int) / 262144) % 256 = _; omega
    have b1 : IntKind.u8.wrap (128 + (n : Int) / 4096 % 64) = 128 + (n : Int) / 4096 % 64 := by show (128 + (n : Int) / 4096 % 64) % 256 = _; omega
    have b2 : IntKind.u8.wrap (128 + (n : Int) / 64 % 64) = 128 + (n : Int) / 64 % 64 := by show (128 + (n : Int) / 64 % 64) % 256 = _; omega
    have b3 : IntKind.u8.wrap (128 + (n : Int) % 64) = 128 + (n : Int) % 64 := by show (128 + (n : Int) % 64) % 256 = _; omega
    have hcv := conv_ints (w := w.alloc (.cells #[.int .u8 (240 + (n : Int) / 262144), .int .u8 (128 + (n : Int) / 4096 % 64), .int .u8 (128 + (n : Int) / 64 % 64), .int .u8 (128 + (n : Int) % 64)] 5)) (zs := [240 + (n : Int) / 262144, 128 + (n : Int) / 4096 % 64, 128 + (n : Int) / 64 % 64, 128 + (n : Int) % 64]) (heap_alloc_new w _) (fun z hz => by simp only [List.mem_cons, List.not_mem_nil, or_false] at hz; omega) 4
    rw [hH.out] at hcv
    simp only [List.length_cons, List.length_nil, Nat.zero_add, Nat.reduceAdd] at hcv
    have hb : Below w.heap.size w (w.alloc (.cells #[.int .u8 (240 + (n : Int) / 262144), .int .u8 (128 + (n : Int) / 4096 % 64), .int .u8 (128 + (n : Int) / 64 % 64), .int .u8 (128 + (n : Int) % 64)] 5)) := (Below.refl _ w).alloc (Nat.le_refl _) _
    go_enter Tryz.func79, Tryz.ntmps79
    go_wp2_with fail
    go_ret
    exact ⟨rfl, hb⟩
set_option maxHeartbeats 4000000 in
set_option maxRecDepth 100000 in
/-- Four digits. -/
theorem four_code (r : Nat) (T : ByteArray) (q : Nat) (w : World) (hT : T.size ≤ 65536) (h : Hid (RT w r T (q : Int) 0 0)) (hq : q ≤ T.size) :
    Calls Tryz.prog 78 #[.pointer (some ⟨r, 0, none⟩)] w fun x w' => (∃ z : Int, x = .returned (.int .i64 z) ∧ ∀ v m, hexR T 4 0 q = .ok v m → z = (v : Int)) ∧ RSt w' r T (hexR T 4 0 q) ∧ FrP (· = r) w w' := by
  obtain ⟨R, hR⟩ : ∃ R, Hid (hexR T 4 0 q = R) := ⟨_, hid_e rfl⟩
  rw [hR.out]
  go_enter Tryz.func78, Tryz.ntmps78
  go_wp2_with fail
  go_loopw [3, 4] (fun nv iv wr => ∃ i X : Nat, i ≤ 4 ∧ iv = .int .i64 i ∧ nv = .int .i64 X ∧ q + i ≤ T.size ∧ X < 16 ^ i ∧ Hid (hexR T (4 - i) X (q + i) = R) ∧ Hid (RT wr r T ((q + i : Nat) : Int) 0 0) ∧ Hid (FrP (· = r) w wr)) (fun _ iv _ => 4 - (intOf iv).toNat)
  case atStart => exact ⟨0, 0, by omega, rfl, rfl, hq, by decide, hR, h, hid_e (FrP.refl _ _)⟩
  case round =>
    clear h hR
    obtain ⟨i, X, hi, rfl, rfl, hqi, hX, hK, hA, hF⟩ := hrel
    have hX9 : X ≤ 65536 := by
      have : (16 : Nat) ^ i ≤ 16 ^ 4 := Nat.pow_le_pow_right (by decide) hi
      have h4 : (16 : Nat) ^ 4 = 65536 := by decide
      omega
    by_cases hlt : i < 4
    · have i1 : (i : Int) < 4 := by omega
      obtain ⟨k, hk⟩ : ∃ k, 4 - i = k + 1 := ⟨3 - i, by omega⟩
      have hk' : 4 - (i + 1) = k := by omega
      rw [hk] at hK
      replace hk := hid_e hk
      by_cases hs : q + i < T.size
      · have hn := hid_e (next_byte r T (q + i) wr hA.out hs)
        go_wp2_with fail
        go_fit hn.out
        clear hn
        rintro e w1 ⟨rfl, hR1, hF1⟩
        have hx := hid_e (hex_code (byteAt T (q + i)) w1)
        go_wp2_with fail
        go_fit hx.out
        rintro e w2 ⟨rfl, hw2⟩
        replace hw2 := hw2.symm
        subst hw2
        obtain ⟨y0, y1, y2, y3, yf⟩ := hR1.cells
        have yf1 := yf 1
        clear yf y0 y2 y3 hx
        obtain ⟨Q, hQ⟩ : ∃ Q : Int, Hid (((q + i : Nat) : Int) = Q) := ⟨_, hid_e rfl⟩
        rw [hQ.out] at y1
        have hQ9 : Q ≤ 70000 ∧ 0 ≤ Q := by have := hQ.out; omega
        cases hh : hexV (byteAt T (q + i)) with
        | none =>
          have hz : hexZ (byteAt T (q + i)) = -1 := by unfold hexZ; rw [hh]
          rw [hz]
          have hRe : Hid (R = .bad 12 (q + i)) := by rw [Hid, ← hK.out, hexR, if_pos hs, hh]
          have hfl := hid_e (fail_code r T Q Q 12 w1 (by rw [← hQ.out]; exact hR1))
          go_wp2_with fail
          go_fit hfl.out
          rintro e w2 ⟨rfl, hS2, hF2⟩
          go_wp2_with fail
          go_ret
          rw [hRe.out]
          exact ⟨⟨_, rfl, fun v m e => by cases e⟩, ⟨by decide, Q, by rw [hQ.out]; exact hS2⟩, (hF.out.trans hF1).trans hF2⟩
        | some d =>
          have hz : hexZ (byteAt T (q + i)) = (d : Int) := by unfold hexZ; rw [hh]
          have hd := hexV_lt hh
          rw [hz]
          have hK2 : Hid (hexR T (4 - (i + 1)) (16 * X + d) (q + (i + 1)) = R) := by
            rw [Hid, hk', ← hK.out, hexR, if_pos hs, hh]
            rfl
          have d1 : ¬ (d : Int) < 0 := by omega
          have hR2 := hR1.set1 (Q + 1)
          have hF2 : FrP (· = r) w1 (w1.setCell ⟨r, 1, none⟩ (.int .i64 (Q + 1))) := (FrP.refl (· = r) w1).set _ _ (.inl rfl)
          have hXd : Hid ((16 : Int) * (X : Int) + (d : Int) = ((16 * X + d : Nat) : Int)) := by rw [Hid]; omega
          have hP : 16 * X + d < 16 ^ (i + 1) := by rw [Nat.pow_succ]; omega
          replace hP := hid_e hP
          replace hX := hid_e hX
          clear hh hz hk' hK
          go_wp2_with fail
          go_roundw
          case rel => exact ⟨i + 1, 16 * X + d, hlt, by go_num, by rw [hXd.out], by omega, hP.out, hK2, hid_e (by rw [show ((q + (i + 1) : Nat) : Int) = Q + 1 by have := hQ.out; omega]; exact hR2), hid_e ((hF.out.trans hF1).trans hF2)⟩
          case measure => simp [intOf]; omega
      · obtain hqe : q + i = T.size := by omega
        have hRe : Hid (R = .bad 3 T.size) := by rw [Hid, ← hK.out, hexR, if_neg hs]
        have hn := hid_e (next_short r T wr (by have := hA.out; rw [hqe] at this; exact this))
        replace hqe := hid_e hqe
        replace hk' := hid_e hk'
        replace hX := hid_e hX
        go_wp2_with fail
        go_fit hn.out
        clear hn
        rintro e w1 ⟨rfl, hR1, hF1⟩
        go_wp2_with fail
        go_ret
        rw [hRe.out]
        exact ⟨⟨_, rfl, fun v m e => by cases e⟩, ⟨by decide, _, hR1⟩, hF.out.trans hF1⟩
    · obtain rfl : i = 4 := by omega
      have hRe : Hid (R = .ok X (q + 4)) := by rw [Hid, ← hK.out]; rfl
      go_wp2_with fail
      go_ret
      rw [hRe.out]
      exact ⟨⟨_, rfl, fun v m e => by cases e; rfl⟩, hA.out, hF.out⟩
end Go.Proofs.YtnccaidlcaeeaaaGreatDoor.Tree
/-! The document's reader of texts: escapes. -/
namespace Go.Proofs.YtnccaidlcaeeaaaGreatDoor.Tree
open Go Go.RowKit

theorem enc_len (c : Nat) (hc : c ≤ 1114111) : (encB c).length ≤ 4 ∧ (c < 128 → (encB c).length = 1) := by
  unfold encB Lib.encodeRune
  rw [List.length_map]
  refine ⟨?_, fun h => by rw [Lib.encodeRuneZ_one (by omega) (by omega)]; rfl⟩
  unfold Lib.encodeRuneZ
  repeat' split
  all_goals simp
theorem enc_size (c : Nat) (hc : c ≤ 1114111) : (⟨(encB c).toArray⟩ : ByteArray).size ≤ 4 := by show (encB c).toArray.size ≤ 4; rw [List.size_toArray]; exact (enc_len c hc).1

set_option maxHeartbeats 4000000 in
set_option maxRecDepth 100000 in
theorem second_code (r : Nat) (T : ByteArray) (st h0 m : Nat) (w : World) (hT : T.size ≤ 65536) (hh1 : 55296 ≤ h0) (hh2 : h0 < 56320) (h : Hid (RT w r T (m : Int) 0 0)) (hm : m ≤ T.size) :
    Calls Tryz.prog 80 #[.pointer (some ⟨r, 0, none⟩), .int .i64 (st : Int), .int .i64 (h0 : Int)] w fun x w' => (∃ s : ByteArray, x = .returned (.string s) ∧ s.size ≤ 4 ∧ ∀ v k, pairR T st h0 m = .ok v k → s = ⟨(encB v).toArray⟩) ∧ RSt w' r T (pairR T st h0 m) ∧ FrP (· = r) w w' := by
  obtain ⟨R, hR⟩ : ∃ R, Hid (pairR T st h0 m = R) := ⟨_, hid_e rfl⟩
  rw [hR.out]
  unfold pairR at hR
  go_enter Tryz.func80, Tryz.ntmps80
  go_wp2_with fail
  go_loopw [8] (fun iv wr => ∃ i : Nat, i ≤ 2 ∧ iv = .int .i64 i ∧ m + i ≤ T.size ∧ Hid (1 ≤ i → m < T.size ∧ byteAt T m = 92) ∧ Hid (2 ≤ i → m + 1 < T.size ∧ byteAt T (m + 1) = 117) ∧ Hid (RT wr r T ((m + i : Nat) : Int) 0 0) ∧ Hid (FrP (· = r) w wr)) (fun iv _ => 2 - (intOf iv).toNat)
  case atStart => exact ⟨0, by omega, rfl, hm, hid_e (fun h => by omega), hid_e (fun h => by omega), h, hid_e (FrP.refl _ _)⟩
  case round =>
    clear h
    obtain ⟨i, hi, rfl, hmi, g1, g2, hA, hF⟩ := hrel
    by_cases hlt : i < 2
    · have i1 : (i : Int) < 2 := by omega
      by_cases hs : m + i < T.size
      · have hn := hid_e (next_byte r T (m + i) wr hA.out hs)
        go_wp2_with fail
        go_fit hn.out
        clear hn
        rintro e w1 ⟨rfl, hR1, hF1⟩
        obtain ⟨y0, y1, y2, y3, yf⟩ := hR1.cells
        have yf1 := yf 1
        clear yf y0 y2 y3
        obtain ⟨Q, hQ⟩ : ∃ Q : Int, Hid (((m + i : Nat) : Int) = Q) := ⟨_, hid_e rfl⟩
        rw [hQ.out] at y1
        have hQ9 : Q ≤ 70000 ∧ 0 ≤ Q := by have := hQ.out; omega
        obtain ⟨z, hz⟩ : ∃ z : Int, Hid (((byteAt T (m + i)).toNat : Int) = z) := ⟨_, hid_e rfl⟩
        rw [hz.out]
        have hfl := hid_e (fail_code r T Q (st : Int) 13 w1 (by rw [← hQ.out]; exact hR1))
        have hR2 := hR1.set1 (Q + 1)
        have hF2 : FrP (· = r) w1 (w1.setCell ⟨r, 1, none⟩ (.int .i64 (Q + 1))) := (FrP.refl (· = r) w1).set _ _ (.inl rfl)
        have h01 : i = 0 ∨ i = 1 := by omega
        rcases h01 with rfl | rfl
        · by_cases heq : byteAt T m = 92
          · have hzv : (z != ((({ data := #[92, 117] } : ByteArray)[0]'(by decide)).toNat : Int)) = false := by rw [← hz.out, Nat.add_zero, heq]; rfl
            go_wp2_with fail
            go_roundw
            case rel => exact ⟨1, by omega, by go_num, by omega, hid_e (fun _ => ⟨by omega, heq⟩), hid_e (fun h => by omega), hid_e (by rw [show ((m + 1 : Nat) : Int) = Q + 1 by have := hQ.out; omega]; exact hR2), hid_e ((hF.out.trans hF1).trans hF2)⟩
            case measure => simp [intOf]
          · have hzv : (z != ((({ data := #[92, 117] } : ByteArray)[0]'(by decide)).toNat : Int)) = true := by
              rw [← hz.out, Nat.add_zero]
              have := byte_ne heq
              show (((byteAt T m).toNat : Int) != 92) = true
              simpa using this
            have hRe : Hid (R = .bad 13 st) := by rw [Hid, ← hR.out, if_pos (by omega), if_neg heq]
            go_wp2_with fail
            go_fit hfl.out
            rintro e w2 ⟨rfl, hS2, hF3⟩
            go_wp2_with fail
            go_ret
            rw [hRe.out]
            exact ⟨⟨⟨#[]⟩, rfl, by decide, fun v k e => by cases e⟩, ⟨by decide, Q, hS2⟩, (hF.out.trans hF1).trans hF3⟩
        · obtain ⟨a1, a2⟩ := g1.out (by omega)
          by_cases heq : byteAt T (m + 1) = 117
          · have hzv : (z != ((({ data := #[92, 117] } : ByteArray)[1]'(by decide)).toNat : Int)) = false := by rw [← hz.out, heq]; rfl
            replace a2 := hid_e a2
            go_wp2_with fail
            go_roundw
            case rel => exact ⟨2, by omega, by go_num, by omega, hid_e (fun _ => ⟨a1, a2.out⟩), hid_e (fun _ => ⟨hs, heq⟩), hid_e (by rw [show ((m + 2 : Nat) : Int) = Q + 1 by have := hQ.out; omega]; exact hR2), hid_e ((hF.out.trans hF1).trans hF2)⟩
            case measure => simp [intOf]
          · have hzv : (z != ((({ data := #[92, 117] } : ByteArray)[1]'(by decide)).toNat : Int)) = true := by
              rw [← hz.out]
              have := byte_ne heq
              show (((byteAt T (m + 1)).toNat : Int) != 117) = true
              simpa using this
            have hRe : Hid (R = .bad 13 st) := by rw [Hid, ← hR.out, if_pos a1, if_pos a2, if_pos hs, if_neg heq]
            replace a2 := hid_e a2
            go_wp2_with fail
            go_fit hfl.out
            rintro e w2 ⟨rfl, hS2, hF3⟩
            go_wp2_with fail
            go_ret
            rw [hRe.out]
            exact ⟨⟨⟨#[]⟩, rfl, by decide, fun v k e => by cases e⟩, ⟨by decide, Q, hS2⟩, (hF.out.trans hF1).trans hF3⟩
      · obtain hqe : m + i = T.size := by omega
        have hRe : Hid (R = .bad 3 T.size) := by
          have h01 : i = 0 ∨ i = 1 := by omega
          rcases h01 with rfl | rfl
          · rw [Hid, ← hR.out, if_neg (by omega)]
          · obtain ⟨a1, a2⟩ := g1.out (by omega)
            rw [Hid, ← hR.out, if_pos a1, if_pos a2, if_neg hs]
        have hn := hid_e (next_short r T wr (by have := hA.out; rw [hqe] at this; exact this))
        replace hqe := hid_e hqe
        go_wp2_with fail
        go_fit hn.out
        clear hn
        rintro e w1 ⟨rfl, hR1, hF1⟩
        go_wp2_with fail
        go_ret
        rw [hRe.out]
        exact ⟨⟨⟨#[]⟩, rfl, by decide, fun v k e => by cases e⟩, ⟨by decide, _, hR1⟩, hF.out.trans hF1⟩
    · obtain rfl : i = 2 := by omega
      obtain ⟨a1, a2⟩ := g1.out (by omega)
      obtain ⟨b1, b2⟩ := g2.out (by omega)
      rw [if_pos a1, if_pos a2, if_pos b1, if_pos b2] at hR
      replace a2 := hid_e a2
      replace b2 := hid_e b2
      have hf4 := hid_e (four_code r T (m + 2) wr hT hA hmi)
      obtain ⟨H, hH⟩ : ∃ H, Hid (hexR T 4 0 (m + 2) = H) := ⟨_, hid_e rfl⟩
      rw [hH.out] at hf4 hR
      go_wp2_with fail
      go_fit hf4.out
      clear hf4
      rintro e w1 ⟨⟨z, rfl, hz⟩, hS1, hF1⟩
      cases H with
      | bad e p =>
        obtain ⟨he, qd, hRd⟩ := hS1
        have hRe : Hid (R = .bad e p) := by rw [Hid, ← hR.out]; rfl
        have he' : ((e : Int) != 0) = true := by simp; omega
        obtain ⟨-, -, y2, -, -⟩ := hRd.cells
        obtain ⟨E, hE⟩ : ∃ E : Int, Hid ((e : Int) = E) := ⟨_, hid_e rfl⟩
        rw [hE.out] at y2 he'
        go_wp2_with fail
        go_ret
        rw [hRe.out]
        exact ⟨⟨⟨#[]⟩, rfl, by decide, fun v k e => by cases e⟩, ⟨he, qd, hRd⟩, hF.out.trans hF1⟩
      | ok l k =>
        obtain rfl := hz l k rfl
        obtain ⟨k1, k2, k3⟩ := hexR_ok T 4 0 (m + 2) l k hmi hH.out
        have hl9 : l < 65536 := by
          have h4 : (16 : Nat) ^ 4 = 65536 := by decide
          omega
        clear hz k3
        replace hS1 : RT w1 r T (k : Int) 0 0 := hS1
        obtain ⟨-, -, y2, -, -⟩ := hS1.cells
        by_cases hbad : l < 56320 ∨ 57344 ≤ l
        · have hRe : Hid (R = .bad 13 st) := by rw [Hid, ← hR.out, lowR, if_pos hbad]
          have hfl := hid_e (fail_code r T (k : Int) (st : Int) 13 w1 hS1)
          rcases hbad with hb | hb
          · have c1 : (l : Int) < 56320 := by omega
            go_wp2_with fail
            go_fit hfl.out
            rintro e w2 ⟨rfl, hS2, hF3⟩
            go_wp2_with fail
            go_ret
            rw [hRe.out]
            exact ⟨⟨⟨#[]⟩, rfl, by decide, fun v k e => by cases e⟩, ⟨by decide, _, hS2⟩, (hF.out.trans hF1).trans hF3⟩
          · have c1 : ¬ (l : Int) < 56320 := by omega
            have c2 : (57343 : Int) < (l : Int) := by omega
            go_wp2_with fail
            go_fit hfl.out
            rintro e w2 ⟨rfl, hS2, hF3⟩
            go_wp2_with fail
            go_ret
            rw [hRe.out]
            exact ⟨⟨⟨#[]⟩, rfl, by decide, fun v k e => by cases e⟩, ⟨by decide, _, hS2⟩, (hF.out.trans hF1).trans hF3⟩
        · have hRe : Hid (R = .ok (pairV h0 l) k) := by rw [Hid, ← hR.out, lowR, if_neg hbad]
          have c1 : ¬ (l : Int) < 56320 := by omega
          have c2 : ¬ (57343 : Int) < (l : Int) := by omega
          have hpv : Hid (((pairV h0 l : Nat) : Int) = 65536 + ((h0 : Int) - 55296) * 1024 + (l : Int) - 56320) := by rw [Hid]; unfold pairV; omega
          have hpl : pairV h0 l ≤ 1114111 ∧ 65536 ≤ pairV h0 l := by unfold pairV; omega
          have hut := hid_e (utf_code (pairV h0 l) hpl.1 (.inr (by omega)) w1)
          rw [hpv.out] at hut
          go_wp2_with fail
          go_fit hut.out
          rintro e w2 ⟨rfl, hb2⟩
          go_wp2_with fail
          go_ret
          rw [hRe.out]
          exact ⟨⟨⟨(encB (pairV h0 l)).toArray⟩, by simp, enc_size _ hpl.1, fun v k e => by rw [← (Res.ok.inj e).1]⟩, RT.keep (S := fun _ => False) hS1 (FrP.of_below hb2) (fun e => e), (hF.out.trans hF1).trans (FrP.of_below hb2)⟩
/-- What stands behind a text's escape. -/
theorem RSt.of {α β : Type} {w : World} {r : Nat} {T : ByteArray} {e p : Nat} (h : RSt (α := α) w r T (.bad e p)) : RSt (α := β) w r T (.bad e p) := h
set_option maxHeartbeats 4000000 in
set_option maxRecDepth 100000 in
theorem escape_code (r : Nat) (T : ByteArray) (q : Nat) (w : World) (hT : T.size ≤ 65536) (h : Hid (RT w r T (q : Int) 0 0)) (hq : q < T.size) :
    Calls Tryz.prog 54 #[.pointer (some ⟨r, 0, none⟩)] w fun x w' => (∃ s : ByteArray, x = .returned (.string s) ∧ s.size ≤ 4 ∧ ∀ v k, escR T q = .ok v k → s = ⟨(encB v).toArray⟩) ∧ RSt w' r T (escR T q) ∧ FrP (· = r) w w' := by
  obtain ⟨R, hR⟩ : ∃ R, Hid (escR T q = R) := ⟨_, hid_e rfl⟩
  rw [hR.out]
  unfold escR at hR
  obtain ⟨y0, y1, y2, y3, yf⟩ := h.out.cells
  have yf1 := yf 1
  clear yf y0 y2 y3
  have hR1 := h.out.set1 ((q : Int) + 1)
  have hF1 : FrP (· = r) w (w.setCell ⟨r, 1, none⟩ (.int .i64 ((q : Int) + 1))) := (FrP.refl (· = r) w).set _ _ (.inl rfl)
  have hQ9 : (q : Int) ≤ 70000 := by omega
  go_enter Tryz.func54, Tryz.ntmps54
  go_upto_region 3 with fail
  clear y1 yf1
  generalize w.setCell ⟨r, 1, none⟩ (.int .i64 ((q : Int) + 1)) = W1 at hR1 hF1 ⊢
  rw [show (q : Int) + 1 = ((q + 1 : Nat) : Int) by omega] at hR1
  by_cases hs : q + 1 < T.size
  · rw [if_pos hs] at hR
    have hn := hid_e (next_byte r T (q + 1) W1 hR1 hs)
    go_wp2_with fail
    go_fit hn.out
    clear hn
    rintro e w2 ⟨rfl, hR2, hF2⟩
    by_cases hu : byteAt T (q + 1) = 117
    · rw [if_pos hu] at hR
      have hz : (((byteAt T (q + 1)).toNat : Nat) : Int) = 117 := by rw [hu]; rfl
      rw [hz]
      clear hz
      obtain ⟨y0, y1, y2, y3, yf⟩ := hR2.cells
      have yf1 := yf 1
      clear yf y0 y2 y3
      rw [show ((q + 1 : Nat) : Int) = (q : Int) + 1 by omega] at y1
      have hR3 := hR2.set1 ((q : Int) + 1 + 1)
      have hF3 : FrP (· = r) w2 (w2.setCell ⟨r, 1, none⟩ (.int .i64 ((q : Int) + 1 + 1))) := (FrP.refl (· = r) w2).set _ _ (.inl rfl)
      go_upto_region 13 with fail
      clear y1 yf1
      generalize w2.setCell ⟨r, 1, none⟩ (.int .i64 ((q : Int) + 1 + 1)) = W3 at hR3 hF3 ⊢
      rw [show (q : Int) + 1 + 1 = ((q + 2 : Nat) : Int) by omega] at hR3
      have hf4 := hid_e (four_code r T (q + 2) W3 hT (hid_e hR3) (by omega))
      obtain ⟨H, hH⟩ : ∃ H, Hid (hexR T 4 0 (q + 2) = H) := ⟨_, hid_e rfl⟩
      unfold codedR at hR
      rw [hH.out] at hf4 hR
      go_wp2_with fail
      go_fit hf4.out
      clear hf4
      rintro e w4 ⟨⟨z, rfl, hz⟩, hS4, hF4⟩
      have hFF : FrP (· = r) w w4 := (((hF1.trans hF2).trans hF3).trans hF4)
      cases H with
      | bad e p =>
        obtain ⟨he, qd, hRd⟩ := hS4
        have hRe : Hid (R = .bad e p) := by rw [Hid, ← hR.out]; rfl
        have he' : ((e : Int) != 0) = true := by simp; omega
        obtain ⟨-, -, y2, -, -⟩ := hRd.cells
        obtain ⟨E, hE⟩ : ∃ E : Int, Hid ((e : Int) = E) := ⟨_, hid_e rfl⟩
        rw [hE.out] at y2 he'
        go_wp2_with fail
        go_ret
        rw [hRe.out]
        exact ⟨⟨⟨#[]⟩, rfl, by decide, fun v k e => by cases e⟩, ⟨he, qd, hRd⟩, hFF⟩
      | ok n k =>
        obtain rfl := hz n k rfl
        obtain ⟨k1, k2, k3⟩ := hexR_ok T 4 0 (q + 2) n k (by omega) hH.out
        have hn9 : n < 65536 := by
          have h4 : (16 : Nat) ^ 4 = 65536 := by decide
          omega
        clear hz k3
        replace hS4 : RT w4 r T (k : Int) 0 0 := hS4
        obtain ⟨-, -, y2, -, -⟩ := hS4.cells
        obtain ⟨Z, hZ⟩ : ∃ Z : Int, Hid ((n : Int) = Z) := ⟨_, hid_e rfl⟩
        rw [hZ.out]
        have hzn := hZ.out
        by_cases ha : n < 55296 ∨ 57344 ≤ n
        · have hRe : Hid (R = .ok n k) := by rw [Hid, ← hR.out, halfR, if_pos ha]
          have hut := hid_e (utf_code n (by omega) ha w4)
          rw [hZ.out] at hut
          rcases ha with ha | ha
          · have c1 : ¬ (56320 : Int) ≤ Z := by omega
            have c2 : Z < 55296 := by omega
            clear hzn k1 k2 ha
            replace hn9 := hid_e hn9
            go_wp2_with fail
            go_fit hut.out
            rintro e w5 ⟨rfl, hb5⟩
            go_wp2_with fail
            go_ret
            rw [hRe.out]
            exact ⟨⟨⟨(encB n).toArray⟩, by simp, enc_size _ (by have := hn9.out; omega), fun v k e => by rw [← (Res.ok.inj e).1]⟩, RT.keep (S := fun _ => False) hS4 (FrP.of_below hb5) (fun e => e), hFF.trans (FrP.of_below hb5)⟩
          · have c1 : (56320 : Int) ≤ Z := by omega
            have c2 : ¬ Z ≤ 57343 := by omega
            have c3 : ¬ Z < 55296 := by omega
            have c4 : (56319 : Int) < Z := by omega
            clear hzn k1 k2 ha
            replace hn9 := hid_e hn9
            go_wp2_with fail
            go_fit hut.out
            rintro e w5 ⟨rfl, hb5⟩
            go_wp2_with fail
            go_ret
            rw [hRe.out]
            exact ⟨⟨⟨(encB n).toArray⟩, by simp, enc_size _ (by have := hn9.out; omega), fun v k e => by rw [← (Res.ok.inj e).1]⟩, RT.keep (S := fun _ => False) hS4 (FrP.of_below hb5) (fun e => e), hFF.trans (FrP.of_below hb5)⟩
        · by_cases hb : 56320 ≤ n
          · have hRe : Hid (R = .bad 13 q) := by rw [Hid, ← hR.out, halfR, if_neg ha, if_pos hb]
            have c1 : (56320 : Int) ≤ Z := by omega
            have c2 : Z ≤ 57343 := by omega
            have hfl := hid_e (fail_code r T (k : Int) (q : Int) 13 w4 hS4)
            clear hzn hn9 k1 k2 ha hb
            go_wp2_with fail
            go_fit hfl.out
            rintro e w5 ⟨rfl, hS5, hF5⟩
            go_wp2_with fail
            go_ret
            rw [hRe.out]
            exact ⟨⟨⟨#[]⟩, rfl, by decide, fun v k e => by cases e⟩, ⟨by decide, _, hS5⟩, hFF.trans hF5⟩
          · have hRe : Hid (pairR T q n k = R) := by rw [Hid, ← hR.out, halfR, if_neg ha, if_neg hb]
            have c1 : ¬ (56320 : Int) ≤ Z := by omega
            have c3 : ¬ Z < 55296 := by omega
            have c4 : ¬ (56319 : Int) < Z := by omega
            have hse := hid_e (second_code r T q n k w4 hT (by omega) (by omega) (hid_e hS4) k2)
            rw [hRe.out, hZ.out] at hse
            clear hzn hn9 k1 k2 ha hb
            go_wp2_with fail
            go_fit hse.out
            rintro e w5 ⟨⟨s5, rfl, hs4, hs5⟩, hS5, hF5⟩
            go_wp2_with fail
            go_ret
            exact ⟨⟨_, rfl, hs4, hs5⟩, hS5, hFF.trans hF5⟩
    · rw [if_neg hu] at hR
      have hsi := hid_e (simple_code (byteAt T (q + 1)) w2)
      have hne : (((byteAt T (q + 1)).toNat : Int) != 117) = true := by
        have := byte_ne hu
        simpa using this
      obtain ⟨z, hz⟩ : ∃ z : Int, Hid (((byteAt T (q + 1)).toNat : Int) = z) := ⟨_, hid_e rfl⟩
      rw [hz.out] at hsi hne ⊢
      go_wp2_with fail
      go_fit hsi.out
      clear hsi
      rintro e w3 ⟨rfl, hb3⟩
      have hR3 : RT w3 r T ((q + 1 : Nat) : Int) 0 0 := RT.keep (S := fun _ => False) hR2 (FrP.of_below hb3) (fun e => e)
      have hFF : FrP (· = r) w w3 := (hF1.trans hF2).trans (FrP.of_below hb3)
      obtain ⟨y0, y1, y2, y3, yf⟩ := hR3.cells
      have yf1 := yf 1
      clear yf y0 y2 y3
      rw [show ((q + 1 : Nat) : Int) = (q : Int) + 1 by omega] at y1
      unfold simpleS
      cases hue : unescN (byteAt T (q + 1)).toNat with
      | none =>
        rw [hue] at hR
        have hRe : Hid (R = .bad 12 (q + 1)) := by rw [Hid, ← hR.out]; rfl
        have hfl := hid_e (fail_code r T ((q + 1 : Nat) : Int) ((q + 1 : Nat) : Int) 12 w3 hR3)
        rw [show ((q + 1 : Nat) : Int) = (q : Int) + 1 by omega] at hfl
        simp only
        go_wp2_with fail
        go_fit hfl.out
        clear y1 yf1
        rintro e w4 ⟨rfl, hS4, hF4⟩
        obtain ⟨y0, y1, y2, y3, yf⟩ := hS4.cells
        have yf1 := yf 1
        clear yf y0 y2 y3 hR3 hfl hue
        obtain ⟨Q1, hQ1⟩ : ∃ z : Int, Hid ((q : Int) + 1 = z) := ⟨_, hid_e rfl⟩
        have hQ2 : Q1 ≤ 70001 ∧ 0 ≤ Q1 := by have := hQ1.out; omega
        rw [hQ1.out] at y1 hS4
        have hS5 := hS4.set1 (Q1 + 1)
        have hF5 : FrP (· = r) w4 (w4.setCell ⟨r, 1, none⟩ (.int .i64 (Q1 + 1))) := (FrP.refl (· = r) w4).set _ _ (.inl rfl)
        clear hQ9
        go_wp2_with fail
        go_ret
        rw [hRe.out]
        exact ⟨⟨⟨#[]⟩, rfl, by decide, fun v k e => by cases e⟩, ⟨by decide, _, by rw [show ((q + 1 : Nat) : Int) = Q1 by have := hQ1.out; omega]; exact hS5⟩, (hFF.trans hF4).trans hF5⟩
      | some d =>
        rw [hue] at hR
        have hRe : Hid (R = .ok d (q + 2)) := by rw [Hid, ← hR.out]; rfl
        have hd := unescN_lt hue
        have hS5 := hR3.set1 ((q : Int) + 1 + 1)
        have hF5 : FrP (· = r) w3 (w3.setCell ⟨r, 1, none⟩ (.int .i64 ((q : Int) + 1 + 1))) := (FrP.refl (· = r) w3).set _ _ (.inl rfl)
        simp only
        obtain ⟨S, hS⟩ : ∃ S : ByteArray, Hid ((⟨(encB d).toArray⟩ : ByteArray) = S) := ⟨_, hid_e rfl⟩
        have hne2 : S.toList.isEmpty = false := by
          rw [← hS.out]
          unfold encB Lib.encodeRune
          rw [Lib.encodeRuneZ_one (by omega) (by omega), ByteArray.toList_eq]
          rfl
        rw [hS.out]
        go_wp2_with fail
        go_ret
        rw [hRe.out]
        exact ⟨⟨S, by simp, by rw [← hS.out]; exact enc_size _ (by omega), fun v k e => by rw [← (Res.ok.inj e).1]; exact hS.out.symm⟩, by rw [RSt, show ((q + 2 : Nat) : Int) = (q : Int) + 1 + 1 by omega]; exact hS5, hFF.trans hF5⟩
  · have hqe : q + 1 = T.size := by omega
    rw [if_neg hs] at hR
    have hRe : Hid (R = .bad 3 T.size) := hR.out.symm
    have hn := hid_e (next_short r T W1 (by rw [← hqe]; exact hR1))
    replace hqe := hid_e hqe
    go_wp2_with fail
    go_fit hn.out
    rintro e w2 ⟨rfl, hR2, hF2⟩
    go_wp2_with fail
    go_ret
    rw [hRe.out]
    exact ⟨⟨⟨#[]⟩, rfl, by decide, fun v k e => by cases e⟩, ⟨by decide, _, hR2⟩, hF1.trans hF2⟩
end Go.Proofs.YtnccaidlcaeeaaaGreatDoor.Tree
