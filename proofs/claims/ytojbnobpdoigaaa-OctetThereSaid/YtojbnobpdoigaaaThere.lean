/-
  The walk of OctetThere.
-/
import Derived.Test.YtojbnobpdoigaaaKnown
import Derived.Test.YtojbnobpdoigaaaRefUnhex
import Derived.Test.YtojbnobpdoigaaaSame
namespace Go.Proofs.Ytojbnobpdoigaaa
open Go.RowKit

theorem cs_str (l : List Int) (h : Oct l) : cs (strOfNums l) = l := by
  unfold cs
  rw [strOfNums_data, List.map_map]
  conv => rhs; rw [← List.map_id l]
  apply List.map_congr_left
  intro x hx
  have := h x hx
  simp only [Function.comp, id, UInt8.toNat_ofNat']
  omega

theorem str_cs (s : ByteArray) : strOfNums (cs s) = s := by
  apply ByteArray.ext
  apply Array.toList_inj.1
  rw [strOfNums_data]
  unfold cs
  rw [List.map_map]
  conv => rhs; rw [← List.map_id s.data.toList]
  apply List.map_congr_left
  intro b _
  simp [Function.comp]

theorem hd_dv (x : Int) (h : 0 ≤ dv x) : hd (dv x) = x := by
  revert h
  unfold dv hd
  intro h
  split at h
  · simp only [*]; split <;> simp_all <;> omega
  · split at h
    · simp only [*]; split <;> simp_all <;> omega
    · omega

theorem hexL_get (xs : List Int) : ∀ i, i < xs.length → (hexL xs).getD (2 * i) 0 = hd (xs.getD i 0 / 16) ∧ (hexL xs).getD (2 * i + 1) 0 = hd (xs.getD i 0 % 16) := by
  induction xs with
  | nil => intro i hi; simp at hi
  | cons x xs ih =>
    intro i hi
    have e : hexL (x :: xs) = hd (x / 16) :: hd (x % 16) :: hexL xs := by simp [hexL]
    rw [e]
    cases i with
    | zero => exact ⟨rfl, rfl⟩
    | succ i =>
      have := ih i (by simpa using hi)
      rw [show 2 * (i + 1) = 2 * i + 1 + 1 from by omega]
      simpa using this

theorem unh_hex (xs : List Int) (h : Oct xs) : unh (hexL xs) xs.length = xs := by
  apply List.ext_getElem
  · exact unh_length _ _
  · intro i h1 h2
    have hx := h.lt i h2
    have hg := hexL_get xs i h2
    simp only [unh, List.getElem_map, List.getElem_range]
    rw [hg.1, hg.2, List.getD_eq_getElem?_getD, List.getElem?_eq_getElem h2]
    simp only [Option.getD_some]
    rw [dv_hd _ (by omega) (by omega), dv_hd _ (by omega) (by omega)]
    omega

theorem hex_good (xs : List Int) (h : Oct xs) : ∀ i, i < 2 * xs.length → 0 ≤ dv ((hexL xs).getD i 0) := by
  intro i hi
  have hg := hexL_get xs (i / 2) (by omega)
  have hx := h.at (i / 2)
  rcases Nat.mod_two_eq_zero_or_one i with e | e
  · rw [show i = 2 * (i / 2) from by omega, hg.1, dv_hd _ (by omega) (by omega)]
    omega
  · rw [show i = 2 * (i / 2) + 1 from by omega, hg.2, dv_hd _ (by omega) (by omega)]
    omega

theorem hex_unh (c : List Int) (hg : ∀ i, i < c.length → 0 ≤ dv (c.getD i 0)) : ∀ k, 2 * k ≤ c.length → hexL (unh c k) = c.take (2 * k) := by
  intro k
  induction k with
  | zero => intro _; rfl
  | succ k ih =>
    intro hk
    have h0 := hg (2 * k) (by omega)
    have h1 := hg (2 * k + 1) (by omega)
    have h2 := dv_lt (c.getD (2 * k) 0)
    have h3 := dv_lt (c.getD (2 * k + 1) 0)
    rw [unh_succ, hexL_snoc, ih (by omega)]
    rw [show (16 * dv (c.getD (2 * k) 0) + dv (c.getD (2 * k + 1) 0)) / 16 = dv (c.getD (2 * k) 0) from by omega]
    rw [show (16 * dv (c.getD (2 * k) 0) + dv (c.getD (2 * k + 1) 0)) % 16 = dv (c.getD (2 * k + 1) 0) from by omega]
    rw [hd_dv _ h0, hd_dv _ h1, show 2 * (k + 1) = 2 * k + 1 + 1 from by omega, take_snoc c (2 * k + 1) (by omega), take_snoc c (2 * k) (by omega)]
    simp

/-- What was told as digits is read as it was. -/
theorem unhex_hex (xs : List Int) (w : World) (ho : Oct xs) (hm : xs.length ≤ 4096) :
    Calls Try.prog 25 #[.string (strOfNums (hexL xs))] w fun e w' => ∃ p c, e = .returned (.tuple #[.slice p xs.length c, .int .i64 0, .int .i64 0]) ∧ Bin w' p xs ∧ Below w.heap.size w w' := by
  have hsz : (strOfNums (hexL xs)).size = 2 * xs.length := by rw [strOfNums_size, hexL_length]
  have hcs := cs_str (hexL xs) (hexL_oct xs ho)
  refine (unhex_even (strOfNums (hexL xs)) xs.length w (by omega) ?_ hsz).mono ?_
  · intro i hi
    rw [hcs]
    exact hex_good xs ho i (by omega)
  · rintro e w' ⟨v, rfl, hown, hb⟩
    rw [hcs, unh_hex xs ho] at hown
    obtain ⟨p, c, rfl, _, hbin⟩ := hown.bin
    exact ⟨p, c, rfl, hbin, hb⟩

/-- And the other way round. -/
theorem hex_back (s : ByteArray) (p : Option Addr) (c m : Nat) (w : World) (hp : Bin w p (unh (cs s) m)) (hg : Good s s.size) (ho : s.size = 2 * m) (hm : m ≤ 4096) :
    Calls Try.prog 23 #[.slice p m c] w fun e w' => e = .returned (.string s) ∧ Below w.heap.size w w' := by
  have h := hex_any p c (unh (cs s) m) w hp (unh_oct s m hg ho) (by rw [unh_length]; omega)
  rw [unh_length, hex_unh (cs s) (fun i hi => hg i (by rw [cs_length] at hi; exact hi)) m (by rw [cs_length]; omega), List.take_of_length_le (by rw [cs_length]; omega), str_cs] at h
  exact h

theorem lawSame_is (p q : Option Addr) (c d n : Nat) (xs : List Int) (w : World) (hn : xs.length = n) (hp : Bin w p xs) (hq : Bin w q xs) (hx : Oct xs) :
    Calls Try.prog 27 #[.slice p n c, .slice q n d] w fun e w' => e = .returned (.bool true) ∧ w = w' := by
  subst hn
  refine (lawSame_any p q c d xs xs w hp hq hx hx).mono ?_
  rintro e w' ⟨he, hw⟩
  exact ⟨by rw [he, sameB_iff.2 rfl], hw⟩

set_option maxHeartbeats 400000 in
theorem there_no (a : Option Addr) (c : Nat) (xs : List Int) (s : ByteArray) (w : World) (HBin : Hid (Bin w a xs)) (HOct : Hid (Oct xs)) (hm : xs.length ≤ 4096) (hs : s.size ≤ 8192) (e1 : Int) (at1 : Nat) (he : (e1 != 0) = true) (hat : at1 ≤ s.size)
    (HU : Hid (∀ w, Calls Try.prog 25 #[.string s] w fun e w' => e = .returned (.tuple #[.slice none 0 0, .int .i64 e1, .int .i64 at1]) ∧ w = w')) :
    Calls Try.prog 10 #[.slice a xs.length c, .string s] w fun e w' => e = .returned (.bool true) ∧ Below w.heap.size w w' := by
  have hsz : (strOfNums (hexL xs)).size = 2 * xs.length := by rw [strOfNums_size, hexL_length]
  have hbb := HBin.out
  have hoo := HOct.out
  obtain ⟨h, hh⟩ : ∃ h, h = strOfNums (hexL xs) := ⟨_, rfl⟩
  have H1 := hid (hex_any a c xs w hbb hoo (by omega))
  have H2 := hid (fun w => unhex_hex xs w hoo hm)
  rw [← hh] at hsz H1 H2
  clear hh hbb hoo
  have hlen : ((h.size : Int) != 2 * (xs.length : Int)) = false := by simp; omega
  clear hsz
  go_enter Try.func10, Try.ntmps10
  go_wp2_with fail
  refine (H1.out).mono ?_
  rintro e w1 ⟨rfl, hb1⟩
  go_wp2_with fail
  refine (H2.out _).mono ?_
  rintro e w2 ⟨p, c2, rfl, hbin, hb2⟩
  have HP := hid hbin
  have HK := hid (hb1.trans (hb2.mono hb1.size))
  have HA := hid ((HBin.out.below hb1).below hb2)
  clear hbin hb1 hb2
  go_wp2_with fail
  refine (lawSame_is _ _ _ _ xs.length xs _ rfl HA.out HP.out HOct.out).mono ?_
  rintro e w3 ⟨rfl, rfl⟩
  go_wp2_with fail
  refine (HU.out _).mono ?_
  rintro e w3 ⟨rfl, rfl⟩
  go_wp2_with fail
  refine (known_any _).mono ?_
  rintro e w3 ⟨rfl, hb3⟩
  go_wp2
  go_ret
  exact ⟨rfl, HK.out.trans (hb3.mono HK.out.size)⟩

set_option maxHeartbeats 400000 in
theorem there_yes (a : Option Addr) (c : Nat) (xs : List Int) (s : ByteArray) (w : World) (HBin : Hid (Bin w a xs)) (HOct : Hid (Oct xs)) (hm : xs.length ≤ 4096) (hs : s.size ≤ 8192) (m : Nat) (HG : Hid (Good s s.size)) (HM : Hid (s.size = 2 * m)) :
    Calls Try.prog 10 #[.slice a xs.length c, .string s] w fun e w' => e = .returned (.bool true) ∧ Below w.heap.size w w' := by
  have hsz : (strOfNums (hexL xs)).size = 2 * xs.length := by rw [strOfNums_size, hexL_length]
  have hbb := HBin.out
  have hoo := HOct.out
  obtain ⟨h, hh⟩ : ∃ h, h = strOfNums (hexL xs) := ⟨_, rfl⟩
  have H1 := hid (hex_any a c xs w hbb hoo (by omega))
  have H2 := hid (fun w => unhex_hex xs w hoo hm)
  rw [← hh] at hsz H1 H2
  clear hh hbb hoo
  have hlen : ((h.size : Int) != 2 * (xs.length : Int)) = false := by simp; omega
  clear hsz
  go_enter Try.func10, Try.ntmps10
  go_wp2_with fail
  refine (H1.out).mono ?_
  rintro e w1 ⟨rfl, hb1⟩
  go_wp2_with fail
  refine (H2.out _).mono ?_
  rintro e w2 ⟨p, c2, rfl, hbin, hb2⟩
  have HP := hid hbin
  have HK := hid (hb1.trans (hb2.mono hb1.size))
  have HA := hid ((HBin.out.below hb1).below hb2)
  clear hbin hb1 hb2
  go_wp2_with fail
  refine (lawSame_is _ _ _ _ xs.length xs _ rfl HA.out HP.out HOct.out).mono ?_
  rintro e w3 ⟨rfl, rfl⟩
  go_wp2_with fail
  refine (unhex_even s m _ (by omega) HG.out HM.out).mono ?_
  rintro e w3 ⟨v, rfl, hown, hb3⟩
  obtain ⟨q, c3, rfl, _, hbin⟩ := hown.bin
  have HQ := hid hbin
  clear hown hbin
  go_wp2_with fail
  refine (hex_back s q c3 m _ HQ.out HG.out HM.out (by have := HM.out; omega)).mono ?_
  rintro e w4 ⟨rfl, hb4⟩
  go_wp2_with fail
  refine (known_any _).mono ?_
  rintro e w5 ⟨rfl, hb5⟩
  go_wp2
  go_ret
  exact ⟨rfl, (HK.out.trans ((hb3.trans (hb4.mono hb3.size)).mono HK.out.size)).trans (hb5.mono (Nat.le_trans HK.out.size (Nat.le_trans hb3.size hb4.size)))⟩

theorem there_big (a : Option Addr) (c n : Nat) (s : ByteArray) (w : World) (h : 4096 < n ∨ 8192 < s.size) :
    Calls Try.prog 10 #[.slice a n c, .string s] w fun e w' => e = .returned (.bool true) ∧ Below w.heap.size w w' := by
  by_cases h1 : 4096 < n
  · go_enter Try.func10, Try.ntmps10
    go_wp2_with fail
    refine (known_any _).mono ?_
    rintro e w3 ⟨rfl, hb3⟩
    go_wp2
    go_ret
    exact ⟨rfl, hb3⟩
  · have h2 : 8192 < s.size := by omega
    go_enter Try.func10, Try.ntmps10
    go_wp2_with fail
    refine (known_any _).mono ?_
    rintro e w3 ⟨rfl, hb3⟩
    go_wp2
    go_ret
    exact ⟨rfl, hb3⟩

theorem there_walk (a : Option Addr) (c : Nat) (xs : List Int) (s : ByteArray) (w : World) (hb : Bin w a xs) (ho : Oct xs) (hr : xs.length ≤ 140737488351232) (hs : s.size ≤ 140737488351232) :
    Calls Try.prog 10 #[.slice a xs.length c, .string s] w fun e w' => e = .returned (.bool true) ∧ Below w.heap.size w w' := by
  by_cases h : 4096 < xs.length ∨ 8192 < s.size
  · exact there_big a c xs.length s w h
  · rcases scan s s.size with ⟨i, hi, hg, hbad⟩ | hg
    · exact there_no a c xs s w hb ho (by omega) (by omega) 5 i rfl (by omega) (fun w => unhex_bad s i w hs hi hg hbad)
    · rcases Nat.mod_two_eq_zero_or_one s.size with h2 | h2
      · exact there_yes a c xs s w hb ho (by omega) (by omega) (s.size / 2) hg (show s.size = 2 * (s.size / 2) from by omega)
      · exact there_no a c xs s w hb ho (by omega) (by omega) 4 s.size rfl (by omega) (fun w => unhex_odd s w hs hg h2)
end Go.Proofs.Ytojbnobpdoigaaa
