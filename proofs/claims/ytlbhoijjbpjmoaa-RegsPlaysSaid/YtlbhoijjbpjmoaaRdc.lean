/-
  The document's device: Has, Step, Read.
-/
import Derived.Test.YtlbhoijjbpjmoaaRdk
import Derived.Test.YtlbhoijjbpjmoaaDs
import Derived.Test.YtlbhoijjbpjmoaaKa
namespace Go.Proofs.Ytlbhoijjbpjmoaa
open Go.RowKit
set_option linter.unusedVariables false
set_option linter.unusedSimpArgs false

/-- The document's device S, in block g, over the blocks F. -/
structure RDs (B : Nat) (w : World) (g : Nat) (F : Nat → Prop) (S : Dst) : Prop where
  ok : S.ok
  at' : RDk 86 B w g F S.n S.now S.firm S.ws S.steps S.fail S.cut S.down
/-- What a call leaves. -/
def Rstep (B : Nat) (w : World) (g : Nat) (F : Nat → Prop) (S' : Dst) (w' : World) : Prop := ∃ F', RDs B w' g F' S' ∧ Tb F w w' ∧ ∀ q, F' q → F q ∨ w.heap.size ≤ q
section
variable {B g : Nat} {F F' : Nat → Prop} {S : Dst} {w w' : World}
theorem RDs.tb (h : RDs B w g F S) (ht : Tb F' w w') (hF : ∀ q, F q → ¬ F' q) : RDs B w' g F S := ⟨h.ok, h.at'.tb ht hF⟩
theorem RDs.below (h : RDs B w g F S) (hb : Below w.heap.size w w') : RDs B w' g F S := ⟨h.ok, h.at'.below hb⟩
theorem RDs.drewN (h : RDs B w g F S) (n : Nat) : RDs B (w.drewN n) g F S := h.below (below_drewN (Below.refl _ _) n)
theorem RDs.lt (h : RDs B w g F S) : ∀ q, F q → B ≤ q ∧ q < w.heap.size := by
  obtain ⟨_, _, _, _, _, _, hv⟩ := h.at'
  exact hv.lt
theorem RDs.fg (h : RDs B w g F S) : F g := by
  obtain ⟨_, _, _, _, _, _, hv⟩ := h.at'
  exact hv.fg
end
/-- The value of a slice with elements. -/
theorem Rowz.isSlice {B n m : Nat} {w : World} {v : Value} {V : Nat → Value} {D : Nat → List Int} (h : Rowz B w v n m V D) (hn : 0 < n) : ∃ b c, v = .slice (some ⟨b, 0, none⟩) n c ∧ n ≤ c := by
  rcases h.shape with ⟨_, h0⟩ | ⟨b, c, e, _, hc⟩
  · omega
  · exact ⟨b, c, e, hc⟩
theorem Own.isSlice {B m : Nat} {w : World} {v : Value} {xs : List Int} (h : Own B w v m xs) (hm : 0 < m) : ∃ b c, v = .slice (some ⟨b, 0, none⟩) m c ∧ m ≤ c ∧ Bin w (some ⟨b, 0, none⟩) xs := by
  obtain ⟨p, c, rfl, hc, hb⟩ := h.bin
  rcases h.shape with ⟨_, h0⟩ | ⟨b, c', e, _, _⟩
  · omega
  · injection e with e1
    subst e1
    exact ⟨b, c, rfl, hc, hb⟩

set_option maxHeartbeats 4000000 in
set_option maxRecDepth 100000 in
theorem rHas_of (B g : Nat) (F : Nat → Prop) (S : Dst) (i : Int) (w : World) (h : RDs B w g F S) :
    Calls Try.prog 46 #[.pointer (some ⟨g, 0, none⟩), .int .i64 i] w fun e w' => e = .returned (.bool (S.has i)) ∧ w = w' := by
  obtain ⟨vN, VN, vF, VF, vW, VW, hv⟩ := h.at'
  have hn := h.ok.n8
  obtain ⟨b, c, rfl, hc⟩ := hv.rN.isSlice (by omega)
  have c0 := hv.c0
  unfold Dst.has
  obtain ⟨n, hn'⟩ : ∃ n, Hid (n = S.n) := ⟨_, rfl⟩
  rw [← hn'.out] at c0 ⊢
  clear hv h
  by_cases h0 : 0 ≤ i
  · have e0 : decide (0 ≤ i) = true := decide_eq_true h0
    by_cases h1 : i < (n : Int)
    · have e1 : decide (i < (n : Int)) = true := decide_eq_true h1
      rw [e0, e1]
      clear e0 e1
      go_enter Try.func46, Try.ntmps46
      go_wp2
      go_ret
      exact ⟨rfl, rfl⟩
    · have e1 : decide (i < (n : Int)) = false := decide_eq_false h1
      rw [e0, e1]
      clear e0 e1
      go_enter Try.func46, Try.ntmps46
      go_wp2
      go_ret
      exact ⟨rfl, rfl⟩
  · have e0 : decide (0 ≤ i) = false := decide_eq_false h0
    rw [e0]
    clear e0
    go_enter Try.func46, Try.ntmps46
    go_wp2
    go_ret
    exact ⟨rfl, rfl⟩

set_option maxHeartbeats 4000000 in
set_option maxRecDepth 100000 in
theorem rRead_of (B g : Nat) (F : Nat → Prop) (S : Dst) (i : Int) (w : World) (h : RDs B w g F S) :
    Calls Try.prog 38 #[.pointer (some ⟨g, 0, none⟩), .int .i64 i] w fun e w' => ∃ v, e = .returned (.tuple #[v, .int .i64 (S.readE i)]) ∧ Own w.heap.size w' v (S.readL i).length (S.readL i) ∧ Below w.heap.size w w' := by
  have hh := rHas_of B g F S i w h
  obtain ⟨vN, VN, vF, VF, vW, VW, hv⟩ := h.at'
  have hn := h.ok.n8
  obtain ⟨b, c, rfl, hc⟩ := hv.rN.isSlice (by omega)
  have c0 := hv.c0
  have c6 := hv.c6
  unfold Dst.readE Dst.readL
  by_cases h1 : S.has i = false
  · rw [if_pos h1, if_pos h1]
    rw [h1] at hh
    go_enter Try.func38, Try.ntmps38
    go_wp2_with fail
    refine hh.mono ?_
    rintro e w1 ⟨rfl, rfl⟩
    go_wp2
    go_ret2
    exact ⟨_, rfl, Own.nil _ _, Below.refl _ _⟩
  · rw [if_neg h1, if_neg h1]
    obtain ⟨hi0, hi1, hi2⟩ := Dst.has_lt h1
    have h1t : S.has i = true := by simpa using h1
    rw [h1t] at hh
    by_cases h2 : S.down = true
    · rw [if_pos h2, if_pos h2]
      rw [h2] at c6
      go_enter Try.func38, Try.ntmps38
      go_wp2_with fail
      refine hh.mono ?_
      rintro e w1 ⟨rfl, rfl⟩
      go_wp2
      go_ret2
      exact ⟨_, rfl, Own.nil _ _, Below.refl _ _⟩
    · rw [if_neg h2, if_neg h2]
      rw [show S.down = false by simpa using h2] at c6
      obtain ⟨k, rfl⟩ : ∃ k : Nat, i = (k : Int) := ⟨i.toNat, by omega⟩
      rw [Int.toNat_natCast] at hi2 ⊢
      have hck := hv.rN.cellAt k hi2
      obtain ⟨bk, ck, hVk, _, hbk⟩ := (hv.rN.row k hi2).isSlice (by decide)
      rw [hVk] at hck
      have hl := (h.ok.now k hi2).1
      have hcp := copy_any (some ⟨bk, 0, none⟩) ck (S.now k) w hbk (by omega)
      obtain ⟨L, hL⟩ : ∃ l, Hid (l = S.now k) := ⟨_, rfl⟩
      rw [← hL.out] at hcp hl ⊢
      rw [hl] at hcp ⊢
      obtain ⟨n, hn'⟩ : ∃ n, Hid (n = S.n) := ⟨_, rfl⟩
      rw [← hn'.out] at c0 hi1 hi2
      clear hv hbk h
      go_enter Try.func38, Try.ntmps38
      go_wp2_with fail
      refine hh.mono ?_
      rintro e w1 ⟨rfl, rfl⟩
      clear hh
      go_wp2_with fail
      refine hcp.mono ?_
      rintro e w2 ⟨g2, c2, rfl, hO, hB⟩
      have HO := hid hO
      have HB := hid hB
      clear hcp hO hB
      go_wp2
      go_ret2
      exact ⟨_, rfl, HO.out, HB.out⟩

set_option maxHeartbeats 8000000 in
set_option maxRecDepth 100000 in
theorem rStep_of (B g : Nat) (F : Nat → Prop) (S : Dst) (w : World) (h : RDs B w g F S) (hs : S.steps < 9223372036854775807) :
    Calls Try.prog 32 #[.pointer (some ⟨g, 0, none⟩)] w fun e w' => e = .returned (.int .i64 S.err) ∧ Rstep B w g F S.step w' := by
  have hok := Dst.ok_step h.ok
  have hcb := h.ok.cut
  have hfb := h.ok.fail
  obtain ⟨vN, VN, vF, VF, vW, VW, hv⟩ := h.at'
  have HV := hid hv
  have c3 := hv.c3
  have c4 := hv.c4
  have c5 := hv.c5
  have c6 := hv.c6
  have z3 := hv.z 3 (by decide)
  have z4 := hv.z 4 (by decide)
  have z5 := hv.z 5 (by decide)
  have z6 := hv.z 6 (by decide)
  clear h hv
  obtain ⟨n, now, firm, ws, steps, fail, cut, down⟩ := S
  simp only at c3 c4 c5 c6 HV hs hcb hfb
  by_cases hc0 : cut = 0
  · have e1 : Dst.err ⟨n, now, firm, ws, steps, fail, cut, down⟩ = 81 := by unfold Dst.err; simp [hc0]
    have e2 : Dst.step ⟨n, now, firm, ws, steps, fail, cut, down⟩ = ⟨n, now, firm, ws, steps, fail, cut, true⟩ := by unfold Dst.step; simp [hc0]
    rw [e2] at hok
    rw [e1, e2]
    have HOK := hid hok
    clear e1 e2 hok hcb hfb
    subst hc0
    have h6 := hid (HV.out.num 6 (by decide) (by decide) (.bool true) steps fail 0 true rfl rfl rfl rfl)
    have ht := hid (Tb.setCell (F := F) (b := g) (Tb.refl _ w) (.inl HV.out.fg) 6 (.bool true))
    go_enter Try.func32, Try.ntmps32
    go_wp2
    go_ret
    exact ⟨rfl, F, ⟨HOK.out, vN, VN, vF, VF, vW, VW, h6.out⟩, ht.out, fun q hq => .inl hq⟩
  · cases down with
    | true =>
      have e1 : Dst.err ⟨n, now, firm, ws, steps, fail, cut, true⟩ = 81 := by unfold Dst.err; simp [hc0]
      have e2 : Dst.step ⟨n, now, firm, ws, steps, fail, cut, true⟩ = ⟨n, now, firm, ws, steps, fail, cut, true⟩ := by unfold Dst.step; simp [hc0]
      rw [e2] at hok
      rw [e1, e2]
      have HOK := hid hok
      clear e1 e2 hok hcb hfb
      go_enter Try.func32, Try.ntmps32
      go_wp2
      go_ret
      exact ⟨rfl, F, ⟨HOK.out, vN, VN, vF, VF, vW, VW, HV.out⟩, Tb.refl _ _, fun q hq => .inl hq⟩
    | false =>
      by_cases hpos : 0 < cut
      · by_cases hf : fail = 0
        · have i3 : IntKind.u64.wrap ((steps : Int) + 1) = (steps : Int) + 1 := by simp [IntKind.wrap, IntKind.signed, IntKind.bits]; omega
          have i2 : IntKind.i64.wrap (cut - 1) = cut - 1 := by simp [IntKind.wrap, IntKind.signed, IntKind.bits]; omega
          have e1 : Dst.err ⟨n, now, firm, ws, steps, fail, cut, false⟩ = 0 := by unfold Dst.err; simp [hc0, hpos, hf]
          have e2 : Dst.step ⟨n, now, firm, ws, steps, fail, cut, false⟩ = ⟨n, now, firm, ws, steps + 1, 0, (cut - 1), false⟩ := by unfold Dst.step; simp [hc0, hpos, hf]
          rw [e2] at hok
          rw [e1, e2]
          have HOK := hid hok
          clear e1 e2 hok hcb hfb
          subst hf
          have q5 := hid (HV.out.num 5 (by decide) (by decide) (.int .i64 (cut - 1)) steps 0 (cut - 1) false rfl rfl rfl rfl)
          have q3 := hid (q5.out.num 3 (by decide) (by decide) (.int .u64 ((steps + 1 : Nat) : Int)) (steps + 1) 0 (cut - 1) false rfl rfl rfl rfl)
          have ht := hid (Tb.setCell (F := F) (b := g) (Tb.setCell (F := F) (b := g) (Tb.refl _ w) (.inl HV.out.fg) 5 (.int .i64 (cut - 1))) (.inl HV.out.fg) 3 (.int .u64 ((steps + 1 : Nat) : Int)))
          go_enter Try.func32, Try.ntmps32
          go_wp2
          go_ret
          exact ⟨rfl, F, ⟨HOK.out, vN, VN, vF, VF, vW, VW, q3.out⟩, ht.out, fun q hq => .inl hq⟩
        · by_cases hf1' : fail = 1
          · have i3 : IntKind.u64.wrap ((steps : Int) + 1) = (steps : Int) + 1 := by simp [IntKind.wrap, IntKind.signed, IntKind.bits]; omega
            have i2 : IntKind.i64.wrap (cut - 1) = cut - 1 := by simp [IntKind.wrap, IntKind.signed, IntKind.bits]; omega
            have e1 : Dst.err ⟨n, now, firm, ws, steps, fail, cut, false⟩ = 80 := by unfold Dst.err; simp [hc0, hpos, hf1']
            have e2 : Dst.step ⟨n, now, firm, ws, steps, fail, cut, false⟩ = ⟨n, now, firm, ws, steps + 1, 0, (cut - 1), false⟩ := by unfold Dst.step; simp [hc0, hpos, hf1']
            rw [e2] at hok
            rw [e1, e2]
            have HOK := hid hok
            clear e1 e2 hok hcb hfb
            subst hf1'
            have q5 := hid (HV.out.num 5 (by decide) (by decide) (.int .i64 (cut - 1)) steps 1 (cut - 1) false rfl rfl rfl rfl)
            have q3 := hid (q5.out.num 3 (by decide) (by decide) (.int .u64 ((steps + 1 : Nat) : Int)) (steps + 1) 1 (cut - 1) false rfl rfl rfl rfl)
            have q4 := hid (q3.out.num 4 (by decide) (by decide) (.int .i64 ((0 : Nat) : Int)) (steps + 1) 0 (cut - 1) false rfl rfl rfl rfl)
            have ht := hid (Tb.setCell (F := F) (b := g) (Tb.setCell (F := F) (b := g) (Tb.setCell (F := F) (b := g) (Tb.refl _ w) (.inl HV.out.fg) 5 (.int .i64 (cut - 1))) (.inl HV.out.fg) 3 (.int .u64 ((steps + 1 : Nat) : Int))) (.inl HV.out.fg) 4 (.int .i64 ((0 : Nat) : Int)))
            go_enter Try.func32, Try.ntmps32
            go_wp2
            go_ret
            exact ⟨rfl, F, ⟨HOK.out, vN, VN, vF, VF, vW, VW, q4.out⟩, ht.out, fun q hq => .inl hq⟩
          · have i3 : IntKind.u64.wrap ((steps : Int) + 1) = (steps : Int) + 1 := by simp [IntKind.wrap, IntKind.signed, IntKind.bits]; omega
            have i2 : IntKind.i64.wrap (cut - 1) = cut - 1 := by simp [IntKind.wrap, IntKind.signed, IntKind.bits]; omega
            have j1 : ¬ (fail : Int) = 0 := by omega
            have i4 : (fail : Int) - 1 = ((fail - 1 : Nat) : Int) := by omega
            have i5 : IntKind.i64.wrap ((fail - 1 : Nat) : Int) = ((fail - 1 : Nat) : Int) := by simp [IntKind.wrap, IntKind.signed, IntKind.bits]; omega
            have j2 : ¬ ((fail - 1 : Nat) : Int) = 0 := by omega
            have e1 : Dst.err ⟨n, now, firm, ws, steps, fail, cut, false⟩ = 0 := by unfold Dst.err; simp [hc0, hpos, hf1']
            have e2 : Dst.step ⟨n, now, firm, ws, steps, fail, cut, false⟩ = ⟨n, now, firm, ws, steps + 1, (fail - 1), (cut - 1), false⟩ := by unfold Dst.step; simp [hc0, hpos, hf1']
            rw [e2] at hok
            rw [e1, e2]
            have HOK := hid hok
            clear e1 e2 hok hcb hfb
            have q5 := hid (HV.out.num 5 (by decide) (by decide) (.int .i64 (cut - 1)) steps fail (cut - 1) false rfl rfl rfl rfl)
            have q3 := hid (q5.out.num 3 (by decide) (by decide) (.int .u64 ((steps + 1 : Nat) : Int)) (steps + 1) fail (cut - 1) false rfl rfl rfl rfl)
            obtain ⟨f1, hf1⟩ : ∃ f, Hid (f = fail - 1) := ⟨_, rfl⟩
            rw [← hf1.out] at i4 i5 j2 HOK ⊢
            have q4 := hid (q3.out.num 4 (by decide) (by decide) (.int .i64 ((f1 : Nat) : Int)) (steps + 1) f1 (cut - 1) false rfl rfl rfl rfl)
            have ht := hid (Tb.setCell (F := F) (b := g) (Tb.setCell (F := F) (b := g) (Tb.setCell (F := F) (b := g) (Tb.refl _ w) (.inl HV.out.fg) 5 (.int .i64 (cut - 1))) (.inl HV.out.fg) 3 (.int .u64 ((steps + 1 : Nat) : Int))) (.inl HV.out.fg) 4 (.int .i64 ((f1 : Nat) : Int)))
            go_enter Try.func32, Try.ntmps32
            go_wp2
            go_ret
            exact ⟨rfl, F, ⟨HOK.out, vN, VN, vF, VF, vW, VW, q4.out⟩, ht.out, fun q hq => .inl hq⟩
      · by_cases hf : fail = 0
        · have i3 : IntKind.u64.wrap ((steps : Int) + 1) = (steps : Int) + 1 := by simp [IntKind.wrap, IntKind.signed, IntKind.bits]; omega
          have e1 : Dst.err ⟨n, now, firm, ws, steps, fail, cut, false⟩ = 0 := by unfold Dst.err; simp [hc0, hpos, hf]
          have e2 : Dst.step ⟨n, now, firm, ws, steps, fail, cut, false⟩ = ⟨n, now, firm, ws, steps + 1, 0, cut, false⟩ := by unfold Dst.step; simp [hc0, hpos, hf]
          rw [e2] at hok
          rw [e1, e2]
          have HOK := hid hok
          clear e1 e2 hok hcb hfb
          subst hf
          have q3 := hid (HV.out.num 3 (by decide) (by decide) (.int .u64 ((steps + 1 : Nat) : Int)) (steps + 1) 0 cut false rfl rfl rfl rfl)
          have ht := hid (Tb.setCell (F := F) (b := g) (Tb.refl _ w) (.inl HV.out.fg) 3 (.int .u64 ((steps + 1 : Nat) : Int)))
          go_enter Try.func32, Try.ntmps32
          go_wp2
          go_ret
          exact ⟨rfl, F, ⟨HOK.out, vN, VN, vF, VF, vW, VW, q3.out⟩, ht.out, fun q hq => .inl hq⟩
        · by_cases hf1' : fail = 1
          · have i3 : IntKind.u64.wrap ((steps : Int) + 1) = (steps : Int) + 1 := by simp [IntKind.wrap, IntKind.signed, IntKind.bits]; omega
            have e1 : Dst.err ⟨n, now, firm, ws, steps, fail, cut, false⟩ = 80 := by unfold Dst.err; simp [hc0, hpos, hf1']
            have e2 : Dst.step ⟨n, now, firm, ws, steps, fail, cut, false⟩ = ⟨n, now, firm, ws, steps + 1, 0, cut, false⟩ := by unfold Dst.step; simp [hc0, hpos, hf1']
            rw [e2] at hok
            rw [e1, e2]
            have HOK := hid hok
            clear e1 e2 hok hcb hfb
            subst hf1'
            have q3 := hid (HV.out.num 3 (by decide) (by decide) (.int .u64 ((steps + 1 : Nat) : Int)) (steps + 1) 1 cut false rfl rfl rfl rfl)
            have q4 := hid (q3.out.num 4 (by decide) (by decide) (.int .i64 ((0 : Nat) : Int)) (steps + 1) 0 cut false rfl rfl rfl rfl)
            have ht := hid (Tb.setCell (F := F) (b := g) (Tb.setCell (F := F) (b := g) (Tb.refl _ w) (.inl HV.out.fg) 3 (.int .u64 ((steps + 1 : Nat) : Int))) (.inl HV.out.fg) 4 (.int .i64 ((0 : Nat) : Int)))
            go_enter Try.func32, Try.ntmps32
            go_wp2
            go_ret
            exact ⟨rfl, F, ⟨HOK.out, vN, VN, vF, VF, vW, VW, q4.out⟩, ht.out, fun q hq => .inl hq⟩
          · have i3 : IntKind.u64.wrap ((steps : Int) + 1) = (steps : Int) + 1 := by simp [IntKind.wrap, IntKind.signed, IntKind.bits]; omega
            have j1 : ¬ (fail : Int) = 0 := by omega
            have i4 : (fail : Int) - 1 = ((fail - 1 : Nat) : Int) := by omega
            have i5 : IntKind.i64.wrap ((fail - 1 : Nat) : Int) = ((fail - 1 : Nat) : Int) := by simp [IntKind.wrap, IntKind.signed, IntKind.bits]; omega
            have j2 : ¬ ((fail - 1 : Nat) : Int) = 0 := by omega
            have e1 : Dst.err ⟨n, now, firm, ws, steps, fail, cut, false⟩ = 0 := by unfold Dst.err; simp [hc0, hpos, hf1']
            have e2 : Dst.step ⟨n, now, firm, ws, steps, fail, cut, false⟩ = ⟨n, now, firm, ws, steps + 1, (fail - 1), cut, false⟩ := by unfold Dst.step; simp [hc0, hpos, hf1']
            rw [e2] at hok
            rw [e1, e2]
            have HOK := hid hok
            clear e1 e2 hok hcb hfb
            have q3 := hid (HV.out.num 3 (by decide) (by decide) (.int .u64 ((steps + 1 : Nat) : Int)) (steps + 1) fail cut false rfl rfl rfl rfl)
            obtain ⟨f1, hf1⟩ : ∃ f, Hid (f = fail - 1) := ⟨_, rfl⟩
            rw [← hf1.out] at i4 i5 j2 HOK ⊢
            have q4 := hid (q3.out.num 4 (by decide) (by decide) (.int .i64 ((f1 : Nat) : Int)) (steps + 1) f1 cut false rfl rfl rfl rfl)
            have ht := hid (Tb.setCell (F := F) (b := g) (Tb.setCell (F := F) (b := g) (Tb.refl _ w) (.inl HV.out.fg) 3 (.int .u64 ((steps + 1 : Nat) : Int))) (.inl HV.out.fg) 4 (.int .i64 ((f1 : Nat) : Int)))
            go_enter Try.func32, Try.ntmps32
            go_wp2
            go_ret
            exact ⟨rfl, F, ⟨HOK.out, vN, VN, vF, VF, vW, VW, q4.out⟩, ht.out, fun q hq => .inl hq⟩
end Go.Proofs.Ytlbhoijjbpjmoaa
