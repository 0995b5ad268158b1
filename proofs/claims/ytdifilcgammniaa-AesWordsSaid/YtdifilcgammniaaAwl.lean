/-
  The walk of AesWords.
-/
import Derived.Test.YtdifilcgammniaaAnw
import Derived.Test.YtdifilcgammniaaAsay
import Derived.Test.YtdifilcgammniaaRsame
namespace Go.Proofs.Ytdifilcgammniaa
open Go.RowKit
set_option linter.unusedVariables false
set_option linter.unusedSimpArgs false

/-- The program's Words, of both lengths of a key. -/
theorem words_new (p : Option Addr) (cap n : Nat) (xs : List Int) (w : World) (hp : Bin w p xs) (hx : Oct xs) (hl : xs.length = n) (hcap : n ≤ cap) (h : n = 16 ∨ n = 32) :
    Calls Try.prog 12 #[.slice p n cap] w fun e w' => ∃ g L F, e = .returned (.tuple #[.slice (some ⟨g, 0, none⟩) L L, .int .i64 0]) ∧
      Hid (L = 4 * (n / 4 + 7) ∧ F = wordB (n / 4) (nats xs)) ∧ (1 ≤ L ∧ L ≤ 60) ∧ (∀ j, F j < 256) ∧ Arr w' g (4 * L) F ∧ Below w.heap.size w w' := by
  rcases h with rfl | rfl
  · refine (words4_any p cap xs w hp hx hl hcap).mono ?_
    rintro e w' ⟨g, he, hA, hb, _⟩
    exact ⟨g, 44, _, he, ⟨rfl, rfl⟩, ⟨by decide, by decide⟩, wordB_lt (nats_lt hx), hA, hb⟩
  · refine (words8_any p cap xs w hp hx hl hcap).mono ?_
    rintro e w' ⟨g, he, hA, hb, _⟩
    exact ⟨g, 60, _, he, ⟨rfl, rfl⟩, ⟨by decide, by decide⟩, wordB_lt (nats_lt hx), hA, hb⟩

theorem fl_oct {F : Nat → Nat} (oF : ∀ j, F j < 256) (n : Nat) : Oct (fl F n) := by
  intro x hx
  simp only [fl, List.mem_map] at hx
  obtain ⟨j, _, rfl⟩ := hx
  have := oF j
  omega
theorem fl_four (F : Nat → Nat) (n : Nat) : fl F (n + 4) = fl F n ++ [((F n : Nat) : Int), ((F (n + 1) : Nat) : Int), ((F (n + 2) : Nat) : Int), ((F (n + 3) : Nat) : Int)] := by
  rw [show n + 4 = n + 3 + 1 from rfl, fl_snoc, show n + 3 = n + 2 + 1 from rfl, fl_snoc, show n + 2 = n + 1 + 1 from rfl, fl_snoc, fl_snoc]
  simp
theorem bin_fl {w : World} {g n : Nat} {F : Nat → Nat} (h : ∀ i, i < n → w.cell? ⟨g, i, none⟩ = some (.int .u8 (F i : Nat))) : Bin w (some ⟨g, 0, none⟩) (fl F n) := fun _ => ⟨g, 0, rfl, fun i hi => by
  rw [fl_length] at hi
  rw [Nat.zero_add, h i hi, fl_at F n i hi]⟩

theorem four_new (w : World) (a b c d : Value) (t : TypeId) : ∀ (j : Nat) u, [a, b, c, d][j]? = some u → ((w.alloc (.cells #[a, b, c, d] t)).drew).cell? ((⟨w.heap.size, 0, none⟩ : Addr).add j) = some u := by
  intro j u hj
  show (w.alloc (.cells #[a, b, c, d] t)).cell? _ = some u
  match j, hj with
  | 0, hj => simp at hj; subst hj; simp [Addr.add]
  | 1, hj => simp at hj; subst hj; simp [Addr.add]
  | 2, hj => simp at hj; subst hj; simp [Addr.add]
  | 3, hj => simp at hj; subst hj; simp [Addr.add]
  | n + 4, hj => simp at hj
theorem four_one (a b c d : Int) : ∀ u ∈ [Value.int .u8 a, Value.int .u8 b, Value.int .u8 c, Value.int .u8 d], u.oneCell' = true := by
  intro u hu
  simp at hu
  rcases hu with rfl | rfl | rfl | rfl <;> rfl

set_option maxHeartbeats 8000000 in
set_option maxRecDepth 100000 in
theorem words_law (p : Option Addr) (cap : Nat) (xs : List Int) (w : World) (hp : Bin w p xs) (hx : Oct xs) (hm : xs.length ≤ 140737488351232) :
    Calls Try.prog 3 #[.slice p xs.length cap] w fun e w' => e = .returned (.bool true) ∧ Below w.heap.size w w' := by
  obtain ⟨i0, hi, hz0, hz1, hz2⟩ := info_parts Try.infoU8
  have hcp := copy_any p cap xs w hp hm
  obtain ⟨n, hn⟩ : ∃ n, n = xs.length := ⟨_, rfl⟩
  rw [← hn] at hm hcp ⊢
  have HN := hid hn
  have HCP := hid hcp
  clear hn hcp
  go_enter Try.func3, Try.ntmps3
  go_wp2_with fail
  refine HCP.out.mono ?_
  rintro e w1 ⟨g0, c0, rfl, hO, hb1⟩
  have hOs := hO.slice
  have HP := hid hp
  have HBI := hid hOs.2.2
  have hcap := hOs.2.1
  clear HCP hO hp hOs
  go_wp2_with fail
  by_cases h : n = 16 ∨ n = 32
  · have hmay : mayB n = true := by simp [mayB, h]
    refine (words_new _ c0 n xs _ HBI.out hx HN.out.symm hcap h).mono ?_
    rintro e w2 ⟨g, L, F, rfl, hF, hL, oF, hA, hb2⟩
    have hB2 := hb1.trans (hb2.mono hb1.size)
    go_wp2_with fail
    refine (new_any _ c0 n xs _ (HBI.out.below hb2) hx HN.out.symm hcap h).mono ?_
    rintro e w3 ⟨c, kb, r, G, rfl, _, _, _, _, hb3⟩
    have hA3 := hA.below hb3
    have hB3 := hB2.trans (hb3.mono hB2.size)
    have hbi3 := (HBI.out.below hb2).below hb3
    clear HBI hA hB2 hb1 hb2 hb3
    go_wp2_with fail
    refine (refSame_yes _ p c0 cap n xs _ HN.out.symm hbi3 (HP.out.below hB3) hx).mono ?_
    rintro e w' ⟨rfl, rfl⟩
    clear hbi3
    go_wp2_with fail
    refine (may_any p cap n _).mono ?_
    rintro e w' ⟨rfl, rfl⟩
    rw [hmay]
    have H3 := hid (And.intro hA3 hB3)
    clear hA3 hB3
    go_wp2_with fail
    go_loopw [8, 49] (fun v i wr => ∃ m : Nat, m ≤ L ∧ i = .int .i64 (m : Int) ∧ Own w.heap.size wr v (4 * m) (fl F (4 * m)) ∧ v.ownBlock ≠ some g ∧ Arr wr g (4 * L) F ∧ Below w.heap.size w wr) (fun _ i _ => L - (intOf i).toNat)
    case atStart => exact ⟨0, Nat.zero_le _, rfl, Own.nil _ _, (by simp [Value.ownBlock]), H3.out⟩
    case round =>
      clear H3
      obtain ⟨m, hk, rfl, hO, hne, hA, hB⟩ := hrel
      by_cases hlt : m < L
      · have c0 : wr.cell? ⟨g, m * 4, none⟩ = some (.int .u8 (F (4 * m) : Nat)) := by rw [Nat.mul_comm m 4]; exact (hA (4 * m) (by omega)).1
        have c1 : wr.cell? ⟨g, m * 4 + 1, none⟩ = some (.int .u8 (F (4 * m + 1) : Nat)) := by rw [Nat.mul_comm m 4]; exact (hA (4 * m + 1) (by omega)).1
        have c2 : wr.cell? ⟨g, m * 4 + 2, none⟩ = some (.int .u8 (F (4 * m + 2) : Nat)) := by rw [Nat.mul_comm m 4]; exact (hA (4 * m + 2) (by omega)).1
        have c3 : wr.cell? ⟨g, m * 4 + 3, none⟩ = some (.int .u8 (F (4 * m + 3) : Nat)) := by rw [Nat.mul_comm m 4]; exact (hA (4 * m + 3) (by omega)).1
        have HO := hid hO
        have HA := hid hA
        have hgl := hA.lt (by omega)
        have HNE := hid hne
        have hsz := hB.size
        have HB := hid hB
        have mI : (m : Int) < (L : Int) := by omega
        have m0 : (0 : Int) ≤ (m : Int) := by omega
        have HF0 := hid (fl_four F (4 * m))
        clear hO hA hB hne
        go_wp2
        go_region_law (refine step_append_lies _ rfl (.tmp 52) (.tmp 73) 22 rfl w.heap.size 5 i0 (.int .u8 0) 1 1 Try.underlying22 hi hz0 hz1 hz2 rfl (by decide) _ (4 * m) _ rfl (by exact World.ownsRow.alloc HO.out _) ⟨wr.heap.size, 0, none⟩ 4 4 [.int .u8 (F (4 * m) : Nat), .int .u8 (F (4 * m + 1) : Nat), .int .u8 (F (4 * m + 2) : Nat), .int .u8 (F (4 * m + 3) : Nat)] rfl rfl (by exact four_new _ _ _ _ _ _) (four_one _ _ _ _) (by decide) (by unfold maxLen; omega) (by omega) (by simp; omega) _ rfl ?_; intro g2 cap2 w6 hown2 hgrow2 hat2 _)
        all_goals
          have HN2 := hid (show Own w.heap.size w6 (.slice (some ⟨g2, 0, none⟩) (4 * m + 4) cap2) (4 * m + 4) (fl F (4 * m + 4)) from by
            rw [HF0.out]; unfold Own; rw [List.map_append]; exact hown2)
          have hb6 : Below w.heap.size w w6 := (HB.out.drew.alloc (by simp; omega) _).grown hgrow2 (by simp; omega) (fun q hq => (World.ownsRow.lt HO.out q hq).1)
          have HA6 := hid (show Arr w6 g (4 * L) F from fun j hj => by
            have hfar : some g ≠ _ := fun e => HNE.out e.symm
            refine ⟨(hgrow2.cell_far ⟨g, j, none⟩ (by simp; omega) hfar).trans ?_, (hgrow2.frozen_far ⟨g, j, none⟩ (by simp; omega) hfar).trans ?_⟩
            · exact (World.cell?_alloc_past _ _ _ hgl).trans (HA.out j hj).1
            · exact (World.frozen?_alloc_past _ _ _ hgl).trans (HA.out j hj).2)
          have hne6 : (Value.slice (some ⟨g2, 0, none⟩) (4 * m + 4) cap2).ownBlock ≠ some g := fun e => by
            have e6 : g2 = g := by simpa [Value.ownBlock] using e
            rcases hat2 with ha | ha
            · exact HNE.out (ha.trans (congrArg some e6))
            · have e5 : g2 = wr.heap.size + 1 := by simpa using ha
              omega
          clear hown2 hgrow2 hat2
          go_wp2
          go_roundw
          case rel => exact ⟨m + 1, by omega, by go_num, HN2.out, hne6, HA6.out, hb6⟩
          case measure => simp [intOf]; omega
      · obtain rfl : m = L := by omega
        obtain ⟨pb, cb, rfl, hcb, hbin⟩ := hO.bin
        have HB2 := hid hbin
        clear hO hA hne
        have HB := hid hB
        clear hB hbin
        go_wp2_with fail
        refine (words_say (n / 4) n (4 * m) xs p cap _ (by have := hF.out.1; omega) (HP.out.below HB.out) hx HN.out.symm).mono ?_
        rintro e w4 ⟨gr, cr, rfl, hgr, hcr, hb4⟩
        rw [← hF.out.2] at hcr
        have hB4 := HB.out.trans (hb4.mono HB.out.size)
        have h1 := HB2.out.below hb4
        clear HB HB2 hb4
        go_wp2_with fail
        refine (refSame_yes pb _ cb cr (4 * m) (fl F (4 * m)) _ (fl_length _ _) h1 (bin_fl hcr) (fl_oct oF _)).mono ?_
        rintro e w' ⟨rfl, rfl⟩
        clear h1 hcr
        go_wp2_with fail
        refine (known_any _).mono ?_
        rintro e w5 ⟨rfl, hb5⟩
        go_wp2_with fail
        go_ret
        exact ⟨rfl, hB4.trans (hb5.mono hB4.size)⟩
  · have hmay : mayB n = false := by simp [mayB]; omega
    refine (words_no _ c0 n _ (fun e => h (.inl e)) (fun e => h (.inr e))).mono ?_
    rintro e w' ⟨rfl, rfl⟩
    go_wp2_with fail
    refine (new_no _ c0 n _ (fun e => h (.inl e)) (fun e => h (.inr e))).mono ?_
    rintro e w' ⟨rfl, rfl⟩
    go_wp2_with fail
    refine (refSame_yes _ p c0 cap n xs _ HN.out.symm HBI.out (HP.out.below hb1) hx).mono ?_
    rintro e w' ⟨rfl, rfl⟩
    clear HBI
    go_wp2_with fail
    refine (may_any p cap n _).mono ?_
    rintro e w' ⟨rfl, rfl⟩
    rw [hmay]
    go_wp2_with fail
    refine (known_any _).mono ?_
    rintro e w5 ⟨rfl, hb5⟩
    go_wp2_with fail
    go_ret
    exact ⟨rfl, hb1.trans (hb5.mono hb1.size)⟩
end Go.Proofs.Ytdifilcgammniaa
