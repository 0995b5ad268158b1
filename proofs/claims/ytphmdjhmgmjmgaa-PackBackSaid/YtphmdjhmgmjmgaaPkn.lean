/-
  'known' of layer 7's statements; the walks of PackNums and PackNone.
-/
import Derived.Test.YtphmdjhmgmjmgaaPg
import Derived.Test.YtphmdjhmgmjmgaaKa
namespace Go.Proofs.Ytphmdjhmgmjmgaa
open Go.RowKit
set_option linter.unusedVariables false
set_option linter.unusedSimpArgs false

theorem bin_five (w : World) (a b c d e : Nat) (t : TypeId) : Bin (w.alloc (.cells #[.int .u8 (a : Nat), .int .u8 (b : Nat), .int .u8 (c : Nat), .int .u8 (d : Nat), .int .u8 (e : Nat)] t)) (some ⟨w.heap.size, 0, none⟩) [(a : Nat), (b : Nat), (c : Nat), (d : Nat), (e : Nat)] := fun _ => ⟨w.heap.size, 0, rfl, fun i hi => by
  rcases i with _ | _ | _ | _ | _ | i
  · simp
  · simp
  · simp
  · simp
  · simp
  · simp only [List.length_cons, List.length_nil] at hi; omega⟩
theorem oct_five : Oct [2, 97, 98, 128, 1] := fun x hx => by
  simp only [List.mem_cons, List.not_mem_nil, or_false] at hx
  rcases hx with rfl | rfl | rfl | rfl | rfl <;> decide
/-- One's own slice, where another block is turned. -/
theorem Own.aside {B n : Nat} {w w' : World} {v : Value} {xs : List Int} {row : Option Nat} (h : Own B w v n xs) (hg : w.grownBy w' row) (hne : ∀ q, v.ownBlock = some q → some q ≠ row) : Own B w' v n xs := by
  refine ⟨h.1, ?_⟩
  rcases h.2 with h2 | ⟨g, cap, cur, h1, h2, h3, h4⟩
  · exact .inl h2
  · subst h1
    exact .inr ⟨g, cap, cur, rfl, h2, (hg.block g (World.ownsRow.lt h g rfl).2 (hne g rfl)).trans h3, h4⟩
theorem Own.aside_lt {B n : Nat} {w w' : World} {v : Value} {xs : List Int} {g : Nat} (h : Own B w v n xs) (hg : w.grownBy w' (some g)) (hlt : g < B) : Own B w' v n xs :=
  h.aside hg fun q hq e => by
    have := (World.ownsRow.lt h q hq).1
    have e' : q = g := Option.some.inj e
    omega
theorem conv_ab {w : World} {p : Option Addr} (h : Bin w p [97, 98]) (cap : Nat) :
    (convert 24 9 (.slice p 2 cap)).run Try.prog w = .ok (.string { data := #[97, 98] }) w := by
  have := conv_str h cap
  rw [show ([97, 98] : List Int).length = 2 from rfl] at this
  rw [this]
  rfl

set_option maxHeartbeats 4000000 in
set_option maxRecDepth 100000 in
theorem known7_any (w : World) : Calls Try.prog 12 #[] w fun e w' => e = .returned (.bool true) ∧ Below w.heap.size w w' := by
  have hB := hid (bin_five w 2 97 98 128 1 5)
  have hA := hid ((Below.refl w.heap.size w).alloc (Nat.le_refl _) (.cells #[.int .u8 2, .int .u8 97, .int .u8 98, .int .u8 128, .int .u8 1] 5))
  go_enter Try.func12, Try.ntmps12
  go_wp2_with fail
  refine (newReader_of _ _ 5 [2, 97, 98, 128, 1] _ hB.out oct_five rfl (by decide) (by decide)).mono ?_
  rintro e w1 ⟨g, k, rfl, hR, hg, hk, hb1⟩
  have hB1 := hid (hA.out.trans (hb1.mono hA.out.size))
  have hgk := hid (show w.heap.size ≤ g from Nat.le_trans hA.out.size hg)
  clear hA hB hb1 hg hk
  go_wp2_with fail
  refine (prText_of g k 0 0 2 _ w1 hR (by decide)).mono ?_
  rw [show rdText [2, 97, 98, 128, 1] 2 0 0 = ([97, 98], 3, 0) from by decide]
  rintro e w2 ⟨v, rfl, hv, hR2, hg2⟩
  have hB2 := hid (hB1.out.grown hg2 hB1.out.size (fun q hq => by cases hq; exact hgk.out))
  have HV := hid hv
  have hgl := hR.lg
  clear hv hg2 hR hB1
  go_wp2_with fail
  refine (prNum_of g k 3 0 _ w2 hR2).mono ?_
  rw [show rdNum [2, 97, 98, 128, 1] 3 0 = (128, 5, 0) from by decide]
  rintro e w3 ⟨rfl, hR3, hg3⟩
  have hB3 := hid (hB2.out.grown hg3 hB2.out.size (fun q hq => by cases hq; exact hgk.out))
  have HV3 := hid (HV.out.aside_lt hg3 hgl)
  clear HV hg3 hR2 hB2
  go_wp2_with fail
  refine (prDone_of g k 5 0 _ w3 hR3).mono ?_
  rintro e w4 ⟨rfl, hR4, hg4⟩
  have hB4 := hid (hB3.out.grown hg4 hB3.out.size (fun q hq => by cases hq; exact hgk.out))
  obtain ⟨p, c, rfl, _, hbin⟩ := (HV3.out.aside_lt hg4 hgl).bin
  have hcv := conv_ab hbin c
  rw [show rdDone ([2, 97, 98, 128, 1] : List Int).length 5 0 = 0 from by decide]
  clear HV3 hg4 hR3 hB3 hbin
  go_wp2_with fail
  go_ret
  exact ⟨rfl, hB4.out⟩

theorem refSame_len (p q : Option Addr) (c d n m : Nat) (xs ys : List Int) (w : World) (h1 : xs.length = n) (h2 : ys.length = m) (hp : Bin w p xs) (hq : Bin w q ys) (hx : Oct xs) (hy : Oct ys) :
    Calls Try.prog 9 #[.slice p n c, .slice q m d] w fun e w' => e = .returned (.bool (sameB xs ys)) ∧ w = w' := by
  subst h1
  subst h2
  exact refSame_any p q c d xs ys w hp hq hx hy

set_option maxHeartbeats 4000000 in
set_option maxRecDepth 100000 in
theorem pnums_law (n0 : Int) (w : World) (hw : (Lit.int .u64 n0).wf = true) :
    Calls Try.prog 3 #[.int .u64 n0] w fun e w' => e = .returned (.bool true) ∧ Below w.heap.size w w' := by
  have hb := u64_of_wf hw
  obtain ⟨n, rfl⟩ : ∃ n : Nat, n0 = (n : Int) := ⟨n0.toNat, by omega⟩
  have hn : n < 2 ^ 64 := by omega
  clear hw hb
  obtain ⟨L, hL⟩ : ∃ L, Hid (L = numL n) := ⟨_, rfl⟩
  have ho : Oct L := by rw [hL.out]; exact numL_oct n
  have h1 := pNum_of n w hn
  have h2 := fun w' => refNum_of n w' hn
  rw [← hL.out] at h1 h2
  go_enter Try.func3, Try.ntmps3
  go_wp2_with fail
  refine h1.mono ?_
  rintro e w1 ⟨v, rfl, hv, hb1⟩
  clear h1
  go_wp2_with fail
  refine (h2 w1).mono ?_
  rintro e w2 ⟨v2, rfl, hv2, hb2⟩
  clear h2
  obtain ⟨p1, c1, rfl, _, bv1⟩ := hv.bin
  obtain ⟨p2, c2, rfl, _, bv2⟩ := hv2.bin
  have hB2 := hid (hb1.trans (hb2.mono hb1.size))
  have bv1' := bv1.below hb2
  clear hv hv2 hb1 hb2 bv1
  go_wp2_with fail
  refine (refSame_any p1 p2 c1 c2 L L w2 bv1' bv2 ho ho).mono ?_
  rintro e w3 ⟨rfl, rfl⟩
  rw [sameB_iff.2 rfl]
  go_wp2_with fail
  refine (known7_any _).mono ?_
  rintro e w4 ⟨rfl, hb4⟩
  go_wp2_with fail
  go_ret
  exact ⟨rfl, hB2.out.trans (hb4.mono hB2.out.size)⟩

set_option maxHeartbeats 4000000 in
set_option maxRecDepth 100000 in
theorem pnone_law (most : Int) (w : World) (hw : (Lit.int .i64 most).wf = true) :
    Calls Try.prog 6 #[.int .i64 most] w fun e w' => e = .returned (.bool true) ∧ Below w.heap.size w w' := by
  clear hw
  go_enter Try.func6, Try.ntmps6
  go_wp2_with fail
  refine (prDone_nil w).mono ?_
  rintro e w1 ⟨rfl, hb1⟩
  have hB1 := hid hb1
  clear hb1
  go_wp2_with fail
  refine (prNum_nil w1).mono ?_
  rintro e w2 ⟨rfl, hb2⟩
  have hB2 := hid (hB1.out.trans (hb2.mono hB1.out.size))
  clear hb2 hB1
  go_wp2_with fail
  refine (prByte_nil w2).mono ?_
  rintro e w3 ⟨rfl, hb3⟩
  have hB3 := hid (hB2.out.trans (hb3.mono hB2.out.size))
  clear hb3 hB2
  go_wp2_with fail
  refine (prText_nil most w3).mono ?_
  rintro e w4 ⟨rfl, hb4⟩
  have hB4 := hid (hB3.out.trans (hb4.mono hB3.out.size))
  clear hb4 hB3
  go_wp2_with fail
  refine (prLeft_nil w4).mono ?_
  rintro e w5 ⟨rfl, hb5⟩
  have hB5 := hid (hB4.out.trans (hb5.mono hB4.out.size))
  clear hb5 hB4
  go_wp2_with fail
  refine (known7_any w5).mono ?_
  rintro e w6 ⟨rfl, hb6⟩
  go_wp2_with fail
  go_ret
  exact ⟨rfl, hB5.out.trans (hb6.mono hB5.out.size)⟩
end Go.Proofs.Ytphmdjhmgmjmgaa
