import Derived.Test.YtjmneiepcbpdpaaDoorBT
import Derived.Test.YtjmneiepcbpdpaaDoorRA1
/-! The document's reader of keys in memory: next, number. -/
namespace Go.Proofs.YtjmneiepcbpdpaaDoor
open Go Go.RowKit

/-- What the document's reader stands on. -/
structure RBase (w : World) (r : Nat) (a : Option Addr) (c : Nat) (l : List UInt8) : Prop where
  lt : r < w.heap.size
  arg : BArg w a c l
  ne : ∀ g o, l ≠ [] → a = some ⟨g, o, none⟩ → g ≠ r
  len : l.length ≤ 1000000000
theorem RBase.keepR {w w' : World} {r : Nat} {a : Option Addr} {c : Nat} {l : List UInt8} (h : RBase w r a c l) (f : Fr (· = r) w w') : RBase w' r a c l :=
  ⟨Nat.lt_of_lt_of_le h.lt f.size, ⟨h.arg.cap, h.arg.nil, h.arg.lie.imp id (fun ⟨g, o, e, hg, hl⟩ => ⟨g, o, e, Nat.lt_of_lt_of_le hg f.size, fun j b hj => f.cell (hl j b hj) (h.ne g o (by rintro rfl; simp at hj) e)⟩)⟩, h.ne, h.len⟩
theorem RBase.cell {w : World} {r : Nat} {a : Option Addr} {c : Nat} {l : List UInt8} (h : RBase w r a c l) {p : Nat} {b : UInt8} (hb : l[p]? = some b) : ∃ g o, a = some ⟨g, o, none⟩ ∧ w.cell? ⟨g, o + p, none⟩ = some (.int .u8 (b.toNat : Int)) := by
  rcases h.arg.lie with rfl | ⟨g, o, e, -, hl⟩
  · simp at hb
  · exact ⟨g, o, e, hl p b hb⟩
/-- The reader: its place, its error and that one's place. -/
def RT (w : World) (r : Nat) (a : Option Addr) (c n q : Nat) (e : Int) (pl : Nat) : Prop := w.heap[r]? = some (.cells #[.slice a n c, .int .i64 (q : Int), .int .i64 e, .int .i64 (pl : Int)] 51 (0, 0))
theorem RT.keep {S : Nat → Prop} {w w' : World} {r : Nat} {a : Option Addr} {c n q : Nat} {e : Int} {pl : Nat} (h : RT w r a c n q e pl) (f : Fr S w w') (hr : ¬ S r) : RT w' r a c n q e pl := (f.block r (Array.getElem?_eq_some_iff.1 h).1 hr).trans h
theorem RT.lt {w : World} {r : Nat} {a : Option Addr} {c n q : Nat} {e : Int} {pl : Nat} (h : RT w r a c n q e pl) : r < w.heap.size := (Array.getElem?_eq_some_iff.1 h).1
theorem RT.cells {w : World} {r : Nat} {a : Option Addr} {c n q : Nat} {e : Int} {pl : Nat} (h : RT w r a c n q e pl) : w.cell? ⟨r, 0, none⟩ = some (.slice a n c) ∧ w.cell? ⟨r, 1, none⟩ = some (.int .i64 (q : Int)) ∧ w.cell? ⟨r, 2, none⟩ = some (.int .i64 e) ∧ w.cell? ⟨r, 3, none⟩ = some (.int .i64 (pl : Int)) ∧ ∀ j, w.frozen? ⟨r, j, none⟩ = false := by
  unfold RT at h
  refine ⟨?_, ?_, ?_, ?_, fun j => ?_⟩
  all_goals simp [World.cell?, World.frozen?, h]
theorem RT.set1 {w : World} {r : Nat} {a : Option Addr} {c n q : Nat} {e : Int} {pl : Nat} (h : RT w r a c n q e pl) (q' : Nat) : RT (w.setCell ⟨r, 1, none⟩ (.int .i64 (q' : Int))) r a c n q' e pl := by
  unfold RT at *
  simp [World.setCell, Array.getElem?_modify, h]
theorem RT.set2 {w : World} {r : Nat} {a : Option Addr} {c n q : Nat} {e : Int} {pl : Nat} (h : RT w r a c n q e pl) (e' : Int) : RT (w.setCell ⟨r, 2, none⟩ (.int .i64 e')) r a c n q e' pl := by
  unfold RT at *
  simp [World.setCell, Array.getElem?_modify, h]
theorem RT.set3 {w : World} {r : Nat} {a : Option Addr} {c n q : Nat} {e : Int} {pl : Nat} (h : RT w r a c n q e pl) (p' : Nat) : RT (w.setCell ⟨r, 3, none⟩ (.int .i64 (p' : Int))) r a c n q e p' := by
  unfold RT at *
  simp [World.setCell, Array.getElem?_modify, h]
/-- What the reader is behind a call. -/
def RSt {α : Type} (w : World) (r : Nat) (a : Option Addr) (c n : Nat) : Rd α → Prop
  | .ok _ q => RT w r a c n q 0 0
  | .no e pl => e ≠ 0 ∧ ∃ q, RT w r a c n q e pl
def nextR (l : List UInt8) (q : Nat) : Rd UInt8 :=
  match l[q]? with
  | none => .no 3 l.length
  | some b => .ok b (q + 1)
def Rd.val {α : Type} (d : α) : Rd α → α
  | .ok x _ => x
  | .no _ _ => d
def Rd.good {α : Type} : Rd α → Bool
  | .ok _ _ => true
  | .no _ _ => false
/-- A fault: only the first one is kept. -/
theorem fail_code (r : Nat) (a : Option Addr) (c n q p : Nat) (e : Int) (w : World) (h : RT w r a c n q 0 0) :
    Calls Tryd.prog 19 #[.pointer (some ⟨r, 0, none⟩), .int .i64 e, .int .i64 (p : Int)] w fun x w' => x = .returned (.tuple #[]) ∧ RT w' r a c n q e p ∧ Fr (· = r) w w' := by
  obtain ⟨y0, y1, y2, y3, yf⟩ := h.cells
  have yf2 := yf 2
  have yf3 := yf 3
  clear yf
  go_enter Tryd.func19, Tryd.ntmps19
  go_wp2_with fail
  refine bodyPost_end (results_none rfl _ _ _) rfl ?_
  exact ⟨rfl, (h.set2 e).set3 p, ((Fr.refl (· = r) w).set _ _ (.inl rfl)).set _ _ (.inl rfl)⟩
set_option maxHeartbeats 1000000 in
theorem next_dead (r : Nat) (a : Option Addr) (c n q pl : Nat) (e : Int) (w : World) (h : RT w r a c n q e pl) (he : e ≠ 0) :
    Calls Tryd.prog 37 #[.pointer (some ⟨r, 0, none⟩)] w fun x w' => x = .returned (.tuple #[.int .u8 0, .bool false]) ∧ w' = w := by
  obtain ⟨y0, y1, y2, y3, yf⟩ := h.cells
  have he' : (e != 0) = true := by simpa using he
  go_enter Tryd.func37, Tryd.ntmps37
  go_wp2_with fail
  go_ret2
  exact ⟨rfl, rfl⟩
set_option maxHeartbeats 4000000 in
set_option maxRecDepth 100000 in
theorem next_code (r : Nat) (a : Option Addr) (c q : Nat) (l : List UInt8) (w : World) (hB : RBase w r a c l) (h : RT w r a c l.length q 0 0) (hq : q ≤ l.length) :
    Calls Tryd.prog 37 #[.pointer (some ⟨r, 0, none⟩)] w fun x w' => x = .returned (.tuple #[.int .u8 (((nextR l q).val 0).toNat : Int), .bool (nextR l q).good]) ∧ RSt w' r a c l.length (nextR l q) ∧ Fr (· = r) w w' := by
  have hlen := hB.len
  obtain ⟨y0, y1, y2, y3, yf⟩ := h.cells
  have yf1 := yf 1
  clear yf
  by_cases he : q = l.length
  · have hm : nextR l q = .no 3 l.length := by unfold nextR; rw [List.getElem?_eq_none (by omega)]
    rw [hm]
    have hf := fun m => hid_e (fail_code r a c l.length q l.length 3 (w.drewN m) h)
    have hd : ((q : Int) == (l.length : Int)) = true := by simp [he]
    go_enter Tryd.func37, Tryd.ntmps37
    go_wp2_with fail
    go_region
    go_wp2_with fail
    go_fit (hf 1).out
    rintro e w1 ⟨rfl, h1, h2⟩
    go_wp2_with fail
    go_ret2
    exact ⟨rfl, ⟨by decide, q, h1⟩, ((Fr.refl _ w).drewN 1).trans h2⟩
  · have hd : ((q : Int) == (l.length : Int)) = false := by simp; omega
    have hlt : q < l.length := by omega
    obtain ⟨b, hb⟩ : ∃ b, l[q]? = some b := ⟨_, List.getElem?_eq_getElem hlt⟩
    have hm : nextR l q = .ok b (q + 1) := by unfold nextR; rw [hb]
    rw [hm]
    obtain ⟨g, o, rfl, hc⟩ := hB.cell hb
    have hne := hB.ne g o (by rintro rfl; simp at hlt) rfl
    have e1 : (q : Int) + 1 = ((q + 1 : Nat) : Int) := by omega
    have hR1 := h.set1 (q + 1)
    have hF1 : Fr (· = r) w (w.setCell ⟨r, 1, none⟩ (.int .i64 ((q + 1 : Nat) : Int))) := (Fr.refl _ w).set _ _ (.inl rfl)
    have hc1 := hF1.cell hc hne
    rw [← e1] at hR1 hF1 hc1
    have hR1' : RT (w.setCell ⟨r, 1, none⟩ (.int .i64 ((q : Int) + 1))) r (some ⟨g, o, none⟩) c l.length (q + 1) 0 0 := by rw [e1]; exact h.set1 (q + 1)
    clear e1
    have hW1 : (q : Int) + 1 ≤ 9223372036854775807 := by omega
    have i1 : (q : Int) < (l.length : Int) := by omega
    go_enter Tryd.func37, Tryd.ntmps37
    go_wp2_with fail
    go_region
    go_upto_region 7 with fail
    have hF2 : Fr (· = r) w ((w.setCell ⟨r, 1, none⟩ (.int .i64 ((q : Int) + 1))).drew) := ((Fr.refl (· = r) w).set _ _ (.inl rfl)).drew
    have hc2 : ((w.setCell ⟨r, 1, none⟩ (.int .i64 ((q : Int) + 1))).drew).cell? ⟨g, o + q, none⟩ = some (.int .u8 (b.toNat : Int)) := hc1
    have hR2 : RT ((w.setCell ⟨r, 1, none⟩ (.int .i64 ((q : Int) + 1))).drew) r (some ⟨g, o, none⟩) c l.length (q + 1) 0 0 := hR1'
    clear hR1 hF1 hc1 hR1' y0 y1 y2 y3 yf1
    generalize (w.setCell ⟨r, 1, none⟩ (.int .i64 ((q : Int) + 1))).drew = W at hF2 hc2 hR2 ⊢
    obtain ⟨y0, y1, y2, y3, -⟩ := hR2.cells
    rw [show ((q + 1 : Nat) : Int) = (q : Int) + 1 by omega] at y1
    go_region
    go_wp2_with fail
    go_ret2
    exact ⟨rfl, hR2, hF2.drewN 1⟩
end Go.Proofs.YtjmneiepcbpdpaaDoor
/-! The document's reader of keys: number, text. -/
namespace Go.Proofs.YtjmneiepcbpdpaaDoor
open Go Go.RowKit

theorem next_some {l : List UInt8} {q : Nat} {b : UInt8} {q1 : Nat} (h : nextR l q = .ok b q1) : l[q]? = some b ∧ q1 = q + 1 ∧ q < l.length := by
  unfold nextR at h
  cases hb : l[q]? with
  | none => rw [hb] at h; cases h
  | some c =>
    rw [hb] at h
    cases h
    exact ⟨rfl, rfl, (List.getElem?_eq_some_iff.1 hb).1⟩
theorem next_none {l : List UInt8} {q : Nat} {e : Int} {q1 : Nat} (h : nextR l q = .no e q1) : l[q]? = none ∧ e = 3 ∧ q1 = l.length := by
  unfold nextR at h
  cases hb : l[q]? with
  | none => rw [hb] at h; cases h; exact ⟨rfl, rfl, rfl⟩
  | some c => rw [hb] at h; cases h
set_option maxHeartbeats 4000000 in
set_option maxRecDepth 100000 in
theorem dnum_code (r : Nat) (a : Option Addr) (c p : Nat) (l : List UInt8) (w : World) (hB : Hid (RBase w r a c l)) (h : Hid (RT w r a c l.length p 0 0)) (hp : p ≤ l.length) :
    Calls Tryd.prog 38 #[.pointer (some ⟨r, 0, none⟩)] w fun x w' => (∃ z : Int, x = .returned (.int .i64 z) ∧ ∀ y q, numR l p = .ok y q → z = y) ∧ RSt w' r a c l.length (numR l p) ∧ Fr (· = r) w w' := by
  have hlen := hB.out.len
  obtain ⟨R, hR⟩ : ∃ R, Hid (numR l p = R) := ⟨_, hid_e rfl⟩
  rw [hR.out]
  go_enter Tryd.func38, Tryd.ntmps38
  go_wp2_with fail
  go_loopw [3, 4] (fun nv iv wr => ∃ i : Nat, i ≤ 8 ∧ iv = .int .i64 i ∧ nv = .int .u64 ((numOf ((l.drop p).take i) : Nat) : Int) ∧ p + i ≤ l.length ∧ Hid (RT wr r a c l.length (p + i) 0 0) ∧ Hid (Fr (· = r) w wr)) (fun _ iv _ => 8 - (intOf iv).toNat)
  case atStart => exact ⟨0, Nat.zero_le _, rfl, rfl, hp, h, hid_e (Fr.refl _ _)⟩
  case round =>
    clear h
    obtain ⟨i, hi, rfl, rfl, hpi, hA, hF⟩ := hrel
    by_cases hlt : i < 8
    · have hlz : (i : Int) < 8 := by omega
      have hn := hid_e (next_code r a c (p + i) l wr (hB.out.keepR hF.out) hA.out hpi)
      go_wp2_with fail
      go_fit hn.out
      clear hn
      rintro e w1 ⟨rfl, hS, hF1⟩
      cases hN : nextR l (p + i) with
      | no e1 q1 =>
        rw [hN] at hS
        obtain ⟨n1, rfl, rfl⟩ := next_none hN
        have hRe : Hid (R = .no 3 l.length) := by
          rw [Hid, ← hR.out]
          unfold numR
          rw [if_pos (by have := List.getElem?_eq_none_iff.1 n1; omega)]
        have b1 : (Rd.no 3 l.length : Rd UInt8).good = false := rfl
        go_wp2_with fail
        go_ret
        rw [hRe.out]
        exact ⟨⟨0, rfl, fun y q e => by cases e⟩, hS, hF.out.trans hF1⟩
      | ok b q1 =>
        rw [hN] at hS
        obtain ⟨n1, rfl, n3⟩ := next_some hN
        have b1 : (Rd.ok b (p + i + 1) : Rd UInt8).good = true := rfl
        have b2 : (Rd.ok b (p + i + 1) : Rd UInt8).val 0 = b := rfl
        have hn := take_num n1
        have hZ := take_lt l p i (by omega)
        have hb8 := b.toNat_lt
        obtain ⟨Z, hZe⟩ : ∃ Z, numOf ((l.drop p).take i) = Z := ⟨_, rfl⟩
        rw [hZe] at hZ hn ⊢
        replace hS : Hid (RT w1 r a c l.length (p + (i + 1)) 0 0) := hS
        replace hF1 := hid_e (hF.out.trans hF1)
        clear hN n1 hF hA
        go_wp2_with fail
        rw [or_byte Z b.toNat hZ hb8, ← hn]
        exact ⟨⟨i + 1, by omega, by go_num, rfl, by omega, hS, hF1⟩, by simp [intOf]; omega⟩
    · obtain rfl : i = 8 := by omega
      have hZ := take_lt8 l p
      have hRe : Hid (R = .ok ((numOf ((l.drop p).take 8) : Int) - 9223372036854775808) (p + 8)) := by
        rw [Hid, ← hR.out]
        unfold numR
        rw [if_neg (by omega)]
      obtain ⟨Z, hZe⟩ : ∃ Z, numOf ((l.drop p).take 8) = Z := ⟨_, rfl⟩
      rw [hZe] at hZ hRe ⊢
      go_wp2_with fail
      rw [lifted Z hZ]
      go_ret
      rw [hRe.out]
      exact ⟨⟨_, rfl, fun y q e => by cases e; rfl⟩, hA.out, hF.out⟩
theorem textK_b {l : List UInt8} {p : Nat} {acc : List UInt8} {q : Nat} {b : UInt8} (h : l[q]? = some b) (hb : b ≠ 0) : textK l p acc q = textK l p (acc ++ [b]) (q + 1) := by
  unfold textK
  rw [get_drop h, scan_b hb]
  cases scan (l.drop (q + 1)) with
  | short => rfl
  | bad n => simp only [Sc.more]; congr 1; omega
  | fin s n =>
    simp only [Sc.more]
    rw [show acc ++ b :: s = acc ++ [b] ++ s by simp, show q + (n + 1) = q + 1 + n by omega]
theorem textK_none {l : List UInt8} {p : Nat} {acc : List UInt8} {q : Nat} (h : l[q]? = none) : textK l p acc q = .no 3 l.length :=
  textK_short (by rw [List.drop_eq_nil_of_le (List.getElem?_eq_none_iff.1 h), scan_nil])
/-- A text under way. -/
structure TAt (w : World) (r : Nat) (a : Option Addr) (c n q : Nat) (ov : Value) (acc : List UInt8) (wr : World) : Prop where
  at_ : RT wr r a c n q 0 0
  fr : Fr (· = r) w wr
  own : wr.ownsRow w.heap.size 5 1 ov acc.length (Lib.byteCells acc)
theorem TAt.next {w wr w' : World} {r : Nat} {a : Option Addr} {c n q q' : Nat} {ov : Value} {acc : List UInt8} (h : TAt w r a c n q ov acc wr) (hr : r < w.heap.size) (hA : RT w' r a c n q' 0 0) (hF : Fr (· = r) wr w') : TAt w r a c n q' ov acc w' :=
  ⟨hA, h.fr.trans hF, ownsRow_keep h.own (fun j hj => hF.block j (ownsRow_ge h.own hj).2 (by have := (ownsRow_ge h.own hj).1; omega))⟩
theorem TAt.own' {w wr w' : World} {r : Nat} {a : Option Addr} {c n q : Nat} {ov : Value} {acc : List UInt8} (h : TAt w r a c n q ov acc wr) (hr : r < w.heap.size) (hF : Fr (· = r) wr w') : w'.ownsRow w.heap.size 5 1 ov acc.length (Lib.byteCells acc) :=
  ownsRow_keep h.own (fun j hj => hF.block j (ownsRow_ge h.own hj).2 (by have := (ownsRow_ge h.own hj).1; omega))
theorem TAt.app {w wr w' : World} {r : Nat} {a : Option Addr} {c n q : Nat} {ov kv : Value} {acc acc' : List UInt8} {o : Obj} (h : TAt w r a c n q ov acc wr) (hr : r < w.heap.size) (hgrow : (wr.alloc o).grownBy w' ov.ownBlock) (hown : w'.ownsRow w.heap.size 5 1 kv acc'.length (Lib.byteCells acc')) : TAt w r a c n q kv acc' w' := by
  have hl := h.at_.lt
  have hF : Fr (· = r) w w' := (h.fr.alloc o).grown hgrow (fun g hg => .inr (ownsRow_ge h.own hg).1)
  refine ⟨?_, hF, hown⟩
  exact (hgrow.block r (by rw [World.size_alloc]; omega) (fun e => by have := (ownsRow_ge h.own e.symm).1; omega)).trans ((Below.heap_alloc wr o r hl).trans h.at_)
set_option maxHeartbeats 8000000 in
set_option maxRecDepth 100000 in
theorem dtext_code (r : Nat) (a : Option Addr) (c p : Nat) (l : List UInt8) (w : World) (hB : Hid (RBase w r a c l)) (h : Hid (RT w r a c l.length p 0 0)) (hp : p ≤ l.length) :
    Calls Tryd.prog 39 #[.pointer (some ⟨r, 0, none⟩)] w fun x w' => (∃ s : ByteArray, x = .returned (.string s) ∧ ∀ y q, textR l p = .ok y q → s = y) ∧ RSt w' r a c l.length (textR l p) ∧ Fr (· = r) w w' := by
  have hlen := hB.out.len
  have hrl := hB.out.lt
  obtain ⟨R, hR⟩ : ∃ R, Hid (textR l p = R) := ⟨_, hid_e rfl⟩
  rw [hR.out]
  obtain ⟨i5, hi5, hz0, hz1, hz2⟩ := info_parts Z5
  obtain ⟨-, y1, -, -, -⟩ := h.out.cells
  go_enter Tryd.func39, Tryd.ntmps39
  go_wp2_with fail
  go_loopg [4] (l.length + 1) (fun gk ov wr => ∃ (q : Nat) (acc : List UInt8), q ≤ l.length ∧ l.length - q < gk ∧ acc.length ≤ q ∧ Hid (TAt w r a c l.length q ov acc wr) ∧ Hid (textK l p acc q = R))
  case atStart => exact ⟨p, [], hp, by omega, Nat.zero_le _, hid_e ⟨h.out, Fr.refl _ _, World.ownsRow_nil _ _ _ _⟩, hR⟩
  case round =>
    clear y1 h hR
    obtain ⟨q, acc, hq, hgk, hacc, hT, hK⟩ := hrel
    obtain ⟨g', rfl⟩ : ∃ g', gk = g' + 1 := ⟨gk - 1, by omega⟩
    have hn := hid_e (next_code r a c q l wr (hB.out.keepR hT.out.fr) hT.out.at_ hq)
    go_wp2_with fail
    go_fit hn.out
    clear hn
    rintro e w1 ⟨rfl, hS, hF1⟩
    cases hN : nextR l q with
    | no e1 q1 =>
      rw [hN] at hS
      obtain ⟨n1, rfl, rfl⟩ := next_none hN
      have hRe : Hid (R = .no 3 l.length) := by rw [Hid, ← hK.out]; exact textK_none n1
      have b1 : (Rd.no 3 l.length : Rd UInt8).good = false := rfl
      go_wp2_with fail
      go_ret
      rw [hRe.out]
      exact ⟨⟨_, rfl, fun y q e => by cases e⟩, hS, hT.out.fr.trans hF1⟩
    | ok b q1 =>
      rw [hN] at hS
      obtain ⟨n1, rfl, n3⟩ := next_some hN
      have b1 : (Rd.ok b (q + 1) : Rd UInt8).good = true := rfl
      have b2 : (Rd.ok b (q + 1) : Rd UInt8).val 0 = b := rfl
      have hT1 := hT.out.next hrl hS hF1
      by_cases hb : b = 0
      · subst hb
        have z0 : (((0 : UInt8).toNat : Nat) : Int) = 0 := rfl
        have hn := hid_e (next_code r a c (q + 1) l w1 (hB.out.keepR hT1.fr) hT1.at_ n3)
        go_wp2_with fail
        go_fit hn.out
        clear hn
        rintro e w2 ⟨rfl, hS2, hF2⟩
        cases hN2 : nextR l (q + 1) with
        | no e1 q1 =>
          rw [hN2] at hS2
          obtain ⟨m1, rfl, rfl⟩ := next_none hN2
          have hRe : Hid (R = .no 3 l.length) := by
            rw [Hid, ← hK.out]
            refine textK_last (a := []) ?_ (fun _ h => by cases h)
            rw [get_drop n1, List.drop_eq_nil_of_le (List.getElem?_eq_none_iff.1 m1)]
            rfl
          have b3 : (Rd.no 3 l.length : Rd UInt8).good = false := rfl
          go_wp2_with fail
          go_ret
          rw [hRe.out]
          exact ⟨⟨_, rfl, fun y q e => by cases e⟩, hS2, hT1.fr.trans hF2⟩
        | ok d q2 =>
          rw [hN2] at hS2
          obtain ⟨m1, rfl, m3⟩ := next_some hN2
          have b3 : (Rd.ok d (q + 1 + 1) : Rd UInt8).good = true := rfl
          have b4 : (Rd.ok d (q + 1 + 1) : Rd UInt8).val 0 = d := rfl
          have hT2 := hT1.next hrl hS2 hF2
          have hdr : l.drop q = [] ++ 0 :: d :: l.drop (q + 1 + 1) := by rw [get_drop n1, get_drop m1]; rfl
          by_cases hd1 : d = 1
          · subst hd1
            have z1 : (((1 : UInt8).toNat : Nat) : Int) = 1 := rfl
            have hRe : Hid (R = if Lib.validD acc = true then .ok ⟨acc.toArray⟩ (q + 1 + 1) else .no 13 p) := by
              rw [Hid, ← hK.out, textK_end hdr (fun _ h => by cases h), List.append_nil]
              rfl
            have hcv := own_conv hT2.own
            have hcl := fun W => hid_e (dclean_code ⟨acc.toArray⟩ (by show acc.toArray.size ≤ _; rw [List.size_toArray]; omega) W)
            rw [show (⟨acc.toArray⟩ : ByteArray).data.toList = acc by rfl] at hcl
            obtain ⟨S, hSe⟩ : ∃ z : ByteArray, Hid ((⟨acc.toArray⟩ : ByteArray) = z) := ⟨_, hid_e rfl⟩
            rw [hSe.out] at hcv hcl hRe
            go_wp2_with fail
            go_fit (hcl _).out
            rintro e w3 ⟨rfl, hw3⟩
            replace hw3 := hw3.symm
            subst hw3
            cases hv : Lib.validD acc with
            | true =>
              rw [hv, if_pos rfl] at hRe
              go_wp2_with fail
              go_ret
              rw [hRe.out]
              exact ⟨⟨_, rfl, fun y q e => by cases e; rfl⟩, hT2.at_, hT2.fr⟩
            | false =>
              rw [hv, if_neg (by decide)] at hRe
              have hfl := hid_e (fail_code r a c l.length (q + 1 + 1) p 13 w2 hT2.at_)
              have hown := hT2.own
              have hown2 := fun W (hW : Fr (· = r) w2 W) => own_conv (hT2.own' hrl hW)
              rw [hSe.out] at hown2
              go_wp2_with fail
              go_fit hfl.out
              rintro e w4 ⟨rfl, h1, h2⟩
              have hcv4 := hown2 w4 h2
              go_wp2_with fail
              go_ret
              rw [hRe.out]
              exact ⟨⟨_, rfl, fun y q e => by cases e⟩, ⟨by decide, _, h1⟩, hT2.fr.trans h2⟩
          · by_cases hd2 : d = 255
            · subst hd2
              have z1 : (((255 : UInt8).toNat : Nat) : Int) = 255 := rfl
              have hK2 : Hid (textK l p (acc ++ [0]) (q + 1 + 1) = R) := by
                rw [Hid, ← hK.out, textK_more hdr (fun _ h => by cases h), List.append_nil]
                rfl
              have hl2 : acc.length + 1 ≤ maxLen ∧ (acc.length + 1) * 1 ≤ 140737488355328 := by unfold maxLen; omega
              have hlo : w.heap.size ≤ (w2.alloc (.cells #[.int .u8 0] 5)).heap.size := by rw [World.size_alloc]; have := hT2.fr.size; omega
              replace hlo := hid_e hlo
              go_wp2_with (at_builtin; refine wpList_append_lies _ rfl _ _ 26 rfl w.heap.size 5 i5 _ 1 1 Tryd.underlying26 hi5 hz0 hz1 hz2 rfl (by decide) _ acc.length _ rfl (hT2.own.alloc _) ⟨w2.heap.size, 0, none⟩ 1 1 [.int .u8 0] rfl rfl (World.news_of_block (heap_alloc_new w2 (.cells #[.int .u8 0] 5))) (fun u hu => by obtain rfl := List.mem_singleton.1 hu; rfl) (by decide) hl2.1 hl2.2 hlo.out _ rfl ?_; intro ga ca Wa ho hgr hat hlta)
              have hT3 : Hid (TAt w r a c l.length (q + 1 + 1) (.slice (some ⟨ga, 0, none⟩) (acc.length + 1) ca) (acc ++ [0]) Wa) := hT2.app hrl hgr (by rw [List.length_append, Lib.byteCells_append]; exact ho)
              clear ho hgr hat hlta
              go_roundg g'
              case measure => omega
              case rel => exact ⟨q + 1 + 1, acc ++ [0], m3, by omega, by rw [List.length_append]; simp only [List.length_cons, List.length_nil]; omega, hT3, hK2⟩
            · have k1 := byte_ne hd1
              have k2 := byte_ne hd2
              obtain ⟨z, hz⟩ : ∃ z, (d.toNat : Int) = z := ⟨_, rfl⟩
              rw [hz] at k1 k2
              have k1' : (z == 1) = false := k1
              have k2' : (z != 255) = true := by simpa using k2
              have hRe : Hid (R = .no 30 (q + 1)) := by
                rw [Hid, ← hK.out, textK_bad hdr (fun _ h => by cases h) hd2 hd1]
                rfl
              have hfl := hid_e (fail_code r a c l.length (q + 1 + 1) (q + 1) 30 w2 hT2.at_)
              obtain ⟨-, y1, -, -, -⟩ := hT2.at_.cells
              have e2 : ((q + 1 + 1 : Nat) : Int) - 1 = ((q + 1 : Nat) : Int) := by omega
              obtain ⟨Q, hQ⟩ : ∃ Q, ((q + 1 : Nat) : Int) = Q := ⟨_, rfl⟩
              obtain ⟨Q2, hQ2⟩ : ∃ Q, ((q + 1 + 1 : Nat) : Int) = Q := ⟨_, rfl⟩
              rw [hQ2] at y1 e2
              rw [hQ] at e2 hfl
              have hQ3 : -9223372036854775808 ≤ Q ∧ Q ≤ 9223372036854775807 := by omega
              clear hQ hQ2
              go_wp2_with fail
              go_fit hfl.out
              rintro e w3 ⟨rfl, h1, h2⟩
              go_wp2_with fail
              go_ret
              rw [hRe.out]
              exact ⟨⟨_, rfl, fun y q e => by cases e⟩, ⟨by decide, _, h1⟩, hT2.fr.trans h2⟩
      · have k1 := byte_ne hb
        have k1' : ((b.toNat : Int) != 0) = true := by simpa using k1
        have hK2 : Hid (textK l p (acc ++ [b]) (q + 1) = R) := by rw [Hid, ← hK.out, ← textK_b n1 hb]
        obtain ⟨z, hz⟩ : ∃ z, Hid ((b.toNat : Int) = z) := ⟨_, hid_e rfl⟩
        rw [hz.out] at k1'
        clear k1
        have hl2 : acc.length + 1 ≤ maxLen ∧ (acc.length + 1) * 1 ≤ 140737488355328 := by unfold maxLen; omega
        have hlo : w.heap.size ≤ (w1.alloc (.cells #[.int .u8 z] 5)).heap.size := by rw [World.size_alloc]; have := hT1.fr.size; omega
        replace hlo := hid_e hlo
        rw [b2, hz.out]
        go_wp2_with (at_builtin; refine wpList_append_lies _ rfl _ _ 26 rfl w.heap.size 5 i5 _ 1 1 Tryd.underlying26 hi5 hz0 hz1 hz2 rfl (by decide) _ acc.length _ rfl (hT1.own.alloc _) ⟨w1.heap.size, 0, none⟩ 1 1 [.int .u8 z] rfl rfl (World.news_of_block (heap_alloc_new w1 (.cells #[.int .u8 z] 5))) (fun u hu => by obtain rfl := List.mem_singleton.1 hu; rfl) (by decide) hl2.1 hl2.2 hlo.out _ rfl ?_; intro ga ca Wa ho hgr hat hlta)
        have hT3 : Hid (TAt w r a c l.length (q + 1) (.slice (some ⟨ga, 0, none⟩) (acc.length + 1) ca) (acc ++ [b]) Wa) := hT1.app hrl hgr (by rw [List.length_append, Lib.byteCells_append, show Lib.byteCells [b] = [.int .u8 z] by rw [← hz.out]; rfl]; exact ho)
        clear ho hgr hat hlta
        go_roundg g'
        case measure => omega
        case rel => exact ⟨q + 1, acc ++ [b], n3, by omega, by rw [List.length_append]; simp only [List.length_cons, List.length_nil]; omega, hT3, hK2⟩
end Go.Proofs.YtjmneiepcbpdpaaDoor
