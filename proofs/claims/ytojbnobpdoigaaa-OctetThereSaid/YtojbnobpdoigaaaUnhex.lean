/-
  The contracts of Unhex, of both.
-/
import Derived.Test.YtojbnobpdoigaaaDigit
import Derived.Deep.AppendLies
import Derived.Deep.RegionLaw
import Derived.BigRegion
namespace Go.Proofs.Ytojbnobpdoigaaa
open Go.RowKit

/-- The bytes of a text as numbers. -/
def cs (s : ByteArray) : List Int := s.data.toList.map fun b => (b.toNat : Int)

theorem cs_length (s : ByteArray) : (cs s).length = s.size := by
  unfold cs
  rw [List.length_map, Array.length_toList]
  rfl

theorem cs_get (s : ByteArray) (i : Nat) (h : i < s.size) : (cs s).getD i 0 = ((s[i]'h).toNat : Int) := by
  have hl : i < (cs s).length := by rw [cs_length]; exact h
  rw [List.getD_eq_getElem?_getD, List.getElem?_eq_getElem hl]
  simp [cs]
  rfl

theorem byte_le (b : UInt8) : 0 ≤ (b.toNat : Int) ∧ (b.toNat : Int) ≤ 255 := by
  have := b.toNat_lt
  omega

theorem cs_oct (s : ByteArray) : Oct (cs s) := by
  intro x hx
  simp only [cs, List.mem_map] at hx
  obtain ⟨b, _, rfl⟩ := hx
  exact byte_le b

/-- The first k bytes that some digits tell. -/
def unh (c : List Int) (k : Nat) : List Int := (List.range k).map fun i => 16 * dv (c.getD (2 * i) 0) + dv (c.getD (2 * i + 1) 0)

theorem unh_length (c : List Int) (k : Nat) : (unh c k).length = k := by simp [unh]
theorem unh_succ (c : List Int) (k : Nat) : unh c (k + 1) = unh c k ++ [16 * dv (c.getD (2 * k) 0) + dv (c.getD (2 * k + 1) 0)] := by simp [unh, List.range_succ]

theorem unh_set (c : List Int) (k m : Nat) (h : k < m) (x : Int) (hx : x = 16 * dv (c.getD (2 * k) 0) + dv (c.getD (2 * k + 1) 0)) :
    (unh c k ++ List.replicate (m - k) 0).set k x = unh c (k + 1) ++ List.replicate (m - (k + 1)) 0 := by
  have hl := unh_length c k
  rw [List.set_append_right _ _ (by omega), hl, Nat.sub_self, show m - k = (m - (k + 1)) + 1 from by omega, List.replicate_succ, List.set_cons_zero, unh_succ, hx]
  simp

theorem dv_lt (x : Int) : dv x < 16 := by unfold dv; split <;> (try split) <;> omega

theorem or_table : ∀ a : Fin 16, ∀ b : Fin 16, bits .or .i64 ((a.val : Int) * 16) (b.val : Int) = 16 * (a.val : Int) + (b.val : Int) := by decide +kernel

theorem or_dv (a b : Int) (h0 : 0 ≤ a) (h1 : a < 16) (h2 : 0 ≤ b) (h3 : b < 16) : bits .or .i64 (a * 16) b = 16 * a + b := by
  have := or_table ⟨a.toNat, by omega⟩ ⟨b.toNat, by omega⟩
  simp only at this
  rwa [show ((a.toNat : Nat) : Int) = a from by omega, show ((b.toNat : Nat) : Int) = b from by omega] at this

/-- A byte of a text, read at an int. -/
theorem index_text (s : ByteArray) (i : Int) (j : Nat) (h : j < s.size) (e : i = (j : Int)) (w : World) :
    (Instr.index 9 (.string s) (.int .i64 i)).run Try.prog w = .ok (.int .u8 ((s[j]'h).toNat : Int)) w := by
  subst e
  simp [Instr.index, run_underlying Try.underlying9, asIntOf, h]

/-- All that is below place k are digits. -/
def Good (s : ByteArray) (k : Nat) : Prop := ∀ i, i < k → 0 ≤ dv ((cs s).getD i 0)

set_option maxHeartbeats 400000 in
theorem unhex_bad (s : ByteArray) (i : Nat) (w : World) (hs : s.size ≤ 140737488351232) (hi : i < s.size) (hg : Good s i) (hb : dv ((cs s).getD i 0) < 0) :
    Calls Try.prog 25 #[.string s] w fun e w' => e = .returned (.tuple #[.slice none 0 0, .int .i64 5, .int .i64 i]) ∧ w = w' := by
  have HG := hid hg
  have HB := hid hb
  clear hg hb
  go_enter Try.func25, Try.ntmps25
  go_wp2_with fail
  go_loop [9] (fun v => ∃ k : Nat, k ≤ i ∧ v = .int .i64 (k : Int)) (fun v => s.size - (intOf v).toNat)
  case atStart => exact ⟨0, by omega, rfl⟩
  case round =>
    obtain ⟨k, hk, rfl⟩ := hrel
    have hlt : k < s.size := by omega
    by_cases he : k < i
    · have hd : 0 ≤ dv ((s[k]'hlt).toNat : Int) := by rw [← cs_get s k hlt]; exact HG.out k he
      go_wp2_with (go_at_call 32; refine (value_any _ _ (byte_le _)).mono ?_; rintro e w' ⟨rfl, rfl⟩)
      go_round
      case rel => exact ⟨k + 1, by omega, by go_num⟩
      case measure => simp [intOf]; omega
    · obtain rfl : k = i := by omega
      have hd : dv ((s[k]'hlt).toNat : Int) < 0 := by rw [← cs_get s k hlt]; exact HB.out
      go_wp2_with (go_at_call 32; refine (value_any _ _ (byte_le _)).mono ?_; rintro e w' ⟨rfl, rfl⟩)
      go_ret3
      exact ⟨rfl, rfl⟩
set_option maxHeartbeats 400000 in
theorem unhex_odd (s : ByteArray) (w : World) (hs : s.size ≤ 140737488351232) (hg : Good s s.size) (ho : s.size % 2 = 1) :
    Calls Try.prog 25 #[.string s] w fun e w' => e = .returned (.tuple #[.slice none 0 0, .int .i64 4, .int .i64 s.size]) ∧ w = w' := by
  have HG := hid hg
  have HO := hid ho
  clear hg ho
  go_enter Try.func25, Try.ntmps25
  go_wp2_with fail
  go_loop [9] (fun v => ∃ k : Nat, k ≤ s.size ∧ v = .int .i64 (k : Int)) (fun v => s.size - (intOf v).toNat)
  case atStart => exact ⟨0, by omega, rfl⟩
  case round =>
    obtain ⟨k, hk, rfl⟩ := hrel
    by_cases hlt : k < s.size
    · have hd : 0 ≤ dv ((s[k]'hlt).toNat : Int) := by rw [← cs_get s k hlt]; exact HG.out k hlt
      go_wp2_with (go_at_call 32; refine (value_any _ _ (byte_le _)).mono ?_; rintro e w' ⟨rfl, rfl⟩)
      go_round
      case rel => exact ⟨k + 1, by omega, by go_num⟩
      case measure => simp [intOf]; omega
    · have hodd : ((s.size : Int) % 2 != 0) = true := by have := HO.out; simp; omega
      go_wp2
      go_ret3
      exact ⟨rfl, rfl⟩

set_option maxHeartbeats 800000 in
theorem unhex_even (s : ByteArray) (m : Nat) (w : World) (hs : s.size ≤ 140737488351232) (hg : Good s s.size) (ho : s.size = 2 * m) :
    Calls Try.prog 25 #[.string s] w fun e w' => ∃ v, e = .returned (.tuple #[v, .int .i64 0, .int .i64 0]) ∧ Own w.heap.size w' v m (unh (cs s) m) ∧ Below w.heap.size w w' := by
  obtain ⟨i0, hi, hz0, hz1, hz2⟩ := info_parts Try.infoU8
  have HG := hid hg
  have HO := hid ho
  have hm : m ≤ 70368744175616 := by omega
  clear hg ho
  go_enter Try.func25, Try.ntmps25
  go_wp2_with fail
  go_loop [9] (fun v => ∃ k : Nat, k ≤ s.size ∧ v = .int .i64 (k : Int)) (fun v => s.size - (intOf v).toNat)
  case atStart => exact ⟨0, by omega, rfl⟩
  case round =>
    obtain ⟨k, hk, rfl⟩ := hrel
    by_cases hlt : k < s.size
    · have hd : 0 ≤ dv ((s[k]'hlt).toNat : Int) := by rw [← cs_get s k hlt]; exact HG.out k hlt
      go_wp2_with (go_at_call 32; refine (value_any _ _ (byte_le _)).mono ?_; rintro e w' ⟨rfl, rfl⟩)
      go_round
      case rel => exact ⟨k + 1, by omega, by go_num⟩
      case measure => simp [intOf]; omega
    · have hodd : ((s.size : Int) % 2 != 0) = false := by have := HO.out; simp; omega
      have hhalf : (s.size : Int) / 2 = (m : Int) := by have := HO.out; omega
      go_wp2_with (at_make; refine wpList_make_full _ rfl (.tmp 27) (.tmp 27) 23 rfl w.heap.size 5 i0 (.int .u8 0) 1 Try.underlying23 hi hz0 hz1 .i64 .i64 _ _ m rfl rfl rfl rfl (by rw [hz2]; omega) (by unfold maxLen; omega) (Nat.le_refl _) ?_; intro w1 hown hgrow)
      have hown0 : Own w.heap.size w1 (.slice (some ⟨w.heap.size, 0, none⟩) m m) m (unh (cs s) 0 ++ List.replicate (m - 0) 0) := by
        rw [made_u8] at hown
        exact hown
      have hb0 : Below w.heap.size w w1 := (Below.refl _ _).grown hgrow (Nat.le_refl _) (by simp)
      clear hown hgrow hodd hhalf
      go_loopw [31] (fun i wr => ∃ k : Nat, k ≤ m ∧ i = .int .i64 (k : Int) ∧ Own w.heap.size wr (.slice (some ⟨w.heap.size, 0, none⟩) m m) m (unh (cs s) k ++ List.replicate (m - k) 0) ∧ Below w.heap.size w wr)
        (fun i _ => m - (intOf i).toNat)
      case atStart => exact ⟨0, by omega, rfl, hown0, hb0⟩
      case round =>
        obtain ⟨k, hk, rfl, hown, hbel⟩ := hrel
        by_cases hlt : k < m
        · have hs0 : 2 * k < s.size := by have := HO.out; omega
          have hs1 : 2 * k + 1 < s.size := by have := HO.out; omega
          have hA := index_text s (2 * (k : Int)) (2 * k) hs0 (by omega)
          have hB := index_text s (2 * (k : Int) + 1) (2 * k + 1) hs1 (by omega)
          have hv0 : 0 ≤ dv ((s[2 * k]'hs0).toNat : Int) := by rw [← cs_get s _ hs0]; exact HG.out _ hs0
          have hv1 : 0 ≤ dv ((s[2 * k + 1]'hs1).toNat : Int) := by rw [← cs_get s _ hs1]; exact HG.out _ hs1
          have hu0 := dv_lt ((s[2 * k]'hs0).toNat : Int)
          have hu1 := dv_lt ((s[2 * k + 1]'hs1).toNat : Int)
          have hcell := hown.cellAt k hlt
          have hfz := hown.frozenAt k
          have HN := hid (hown.stored k (16 * dv ((s[2 * k]'hs0).toNat : Int) + dv ((s[2 * k + 1]'hs1).toNat : Int)))
          clear hown
          have hw1 : IntKind.i64.wrap (2 * (k : Int)) = 2 * (k : Int) := IntWalk.i64_in _ (by omega)
          have hw2 : IntKind.i64.wrap (2 * (k : Int) + 1) = 2 * (k : Int) + 1 := IntWalk.i64_in _ (by omega)
          go_wp2
          go_region_law (go_simp; go_at_call 32; refine (value_any _ _ (byte_le _)).mono ?_; rintro e w' ⟨rfl, rfl⟩)
          all_goals
            go_wp2
            go_roundw
            case rel =>
              refine ⟨k + 1, by omega, by go_num, ?_, (hbel.drew).setCell (Nat.le_refl _) _⟩
              rw [or_dv _ _ hv0 hu0 hv1 hu1, Int.emod_eq_of_lt (by omega) (by omega)]
              have h := HN.out
              rw [unh_set (cs s) k m hlt _ (by rw [cs_get s _ hs0, cs_get s _ hs1])] at h
              exact World.ownsRow.drew h
            case measure => simp [intOf]; omega
        · obtain rfl : k = m := by omega
          have e : unh (cs s) k ++ List.replicate (k - k) 0 = unh (cs s) k := by simp
          rw [e] at hown
          have HN := hid hown
          clear hown e
          go_wp2
          go_ret3
          exact ⟨_, rfl, HN.out, hbel⟩
end Go.Proofs.Ytojbnobpdoigaaa
