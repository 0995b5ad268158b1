/-
  The contracts of the program's device.
-/
import Derived.Test.YtlbhoijjbpjmoaaPdc
import Derived.Test.YtlbhoijjbpjmoaaPfk
import Derived.Test.YtlbhoijjbpjmoaaPdf
namespace Go.Proofs.Ytlbhoijjbpjmoaa
open Go.RowKit
set_option linter.unusedVariables false
set_option linter.unusedSimpArgs false

section
variable (B g : Nat) (F : Nat → Prop) (S : Dst) (w : World)
theorem dSteps_of (h : PDk B w g F S) : Calls Try.prog 25 #[.pointer (some ⟨g, 0, none⟩)] w fun e w' => e = .returned (.int .u64 (S.steps : Nat)) ∧ Below w.heap.size w w' :=
  dSteps_at h
theorem dDown_of (h : PDk B w g F S) : Calls Try.prog 26 #[.pointer (some ⟨g, 0, none⟩)] w fun e w' => e = .returned (.bool S.down) ∧ Below w.heap.size w w' :=
  dDown_at h
theorem dRead_of (h : PDk B w g F S) (i : Int) (hi : (Lit.int .i64 i).wf = true) :
    Calls Try.prog 37 #[.pointer (some ⟨g, 0, none⟩), .int .i64 i] w fun e w' => ∃ v, e = .returned (.tuple #[v, .int .i64 (S.readE i)]) ∧ Ort w.heap.size w' v (S.readL i).length (S.readL i) ∧ Below w.heap.size w w' :=
  dRead_at h i hi
theorem dFirm_of (h : PDk B w g F S) (i : Int) (hi : (Lit.int .i64 i).wf = true) :
    Calls Try.prog 45 #[.pointer (some ⟨g, 0, none⟩), .int .i64 i] w fun e w' => ∃ v, e = .returned (.tuple #[v, .int .i64 (S.firmE i)]) ∧ Ort w.heap.size w' v (S.firmL i).length (S.firmL i) ∧ Below w.heap.size w w' :=
  dFirm_at h i hi
theorem dWrite_of (h : PDk B w g F S) (i : Int) (hi : (Lit.int .i64 i).wf = true) (p : Option Addr) (c n : Nat) (bs : List Int) (hp : Bin w p bs) (ho : Oct bs) (hl : bs.length = n) (hc : n ≤ c) (hm : n ≤ 140737488351232) (hF : ∀ a, p = some a → 0 < n → ¬ F a.block)
    (hs : S.steps < 9223372036854775807) (hw : S.ws.length < 4294967296) :
    Calls Try.prog 34 #[.pointer (some ⟨g, 0, none⟩), .int .i64 i, .slice p n c] w fun e w' => e = .returned (.int .i64 (S.writeE i bs)) ∧ Dstep B w g F (S.write i bs) w' :=
  dWrite_at h i hi p c n bs hp ho hl hc hm hF hs hw
theorem dSync_of (h : PDk B w g F S) (hs : S.steps < 9223372036854775807) :
    Calls Try.prog 39 #[.pointer (some ⟨g, 0, none⟩)] w fun e w' => e = .returned (.int .i64 S.err) ∧ Dstep B w g F S.sync w' :=
  dSync_at h hs
theorem dStep_of (h : PDk B w g F S) (hs : S.steps < 9223372036854775807) :
    Calls Try.prog 31 #[.pointer (some ⟨g, 0, none⟩)] w fun e w' => e = .returned (.int .i64 S.err) ∧ Dstep B w g F S.step w' :=
  dStep_at h hs
theorem dFail_of (h : PDk B w g F S) (n : Int) (hn : (Lit.int .i64 n).wf = true) :
    Calls Try.prog 27 #[.pointer (some ⟨g, 0, none⟩), .int .i64 n] w fun e w' => e = .returned (.tuple #[]) ∧ Dstep B w g F (S.setFail n) w' :=
  dFail_at h n hn
theorem dCut_of (h : PDk B w g F S) (n : Int) (hn : (Lit.int .i64 n).wf = true) :
    Calls Try.prog 28 #[.pointer (some ⟨g, 0, none⟩), .int .i64 n] w fun e w' => e = .returned (.tuple #[]) ∧ Dstep B w g F (S.setCut n) w' :=
  dCut_at h n hn
theorem dCrash_of (h : PDk B w g F S) (p : Option Addr) (c n : Nat) (ms : List Int) (hp : Bin w p ms) (ho : Oct ms) (hl : ms.length = n) (hc : n ≤ c) (hm : n ≤ 140737488351232) (hF : ∀ a, p = some a → 0 < n → ¬ F a.block) :
    Calls Try.prog 29 #[.pointer (some ⟨g, 0, none⟩), .slice p n c] w fun e w' => e = .returned (.int .i64 0) ∧ Dstep B w g F (S.crash (ms.map Int.toNat)) w' :=
  dCrash_at h p c n ms hp ho hl hc hm hF
theorem dForeign_of (h : PDk B w g F S) (i at0 : Int) (hi : (Lit.int .i64 i).wf = true) (ha : (Lit.int .i64 at0).wf = true) (p : Option Addr) (c n : Nat) (bs : List Int) (hp : Bin w p bs) (ho : Oct bs) (hl : bs.length = n) (hc : n ≤ c) (hm : n ≤ 140737488351232) (hF : ∀ a, p = some a → 0 < n → ¬ F a.block) :
    Calls Try.prog 42 #[.pointer (some ⟨g, 0, none⟩), .int .i64 i, .int .i64 at0, .slice p n c] w fun e w' => e = .returned (.int .i64 (S.foreignE i at0 bs)) ∧ Dstep B w g F (S.foreign i at0 bs) w' :=
  dForeign_at h i at0 hi ha p c n bs hp ho hl hc hm hF
theorem dFork_of (h : PDk B w g F S) :
    Calls Try.prog 44 #[.pointer (some ⟨g, 0, none⟩)] w fun e w' => ∃ g2 F2, e = .returned (.pointer (some ⟨g2, 0, none⟩)) ∧ PDk w.heap.size w' g2 F2 S ∧ Below w.heap.size w w' :=
  dFork_at h
set_option maxHeartbeats 4000000 in
set_option maxRecDepth 100000 in
theorem dRead_nil (i : Int) : Calls Try.prog 37 #[.pointer none, .int .i64 i] w fun e w' => e = .returned (.tuple #[.slice none 0 0, .int .i64 1]) ∧ Below w.heap.size w w' := by
  go_enter Try.func37, Try.ntmps37
  go_wp2
  go_ret2
  exact ⟨rfl, Below.refl _ _⟩
set_option maxHeartbeats 4000000 in
set_option maxRecDepth 100000 in
theorem dFirm_nil (i : Int) : Calls Try.prog 45 #[.pointer none, .int .i64 i] w fun e w' => e = .returned (.tuple #[.slice none 0 0, .int .i64 1]) ∧ Below w.heap.size w w' := by
  go_enter Try.func45, Try.ntmps45
  go_wp2
  go_ret2
  exact ⟨rfl, Below.refl _ _⟩
set_option maxHeartbeats 4000000 in
set_option maxRecDepth 100000 in
theorem dFail_nil (i : Int) : Calls Try.prog 27 #[.pointer none, .int .i64 i] w fun e w' => e = .returned (.tuple #[]) ∧ Below w.heap.size w w' := by
  go_enter Try.func27, Try.ntmps27
  go_wp2
  (try simp only [Exit.inBlock, Exit.then])
  refine bodyPost_ret (results_none rfl _ _ _) rfl ?_
  exact ⟨rfl, Below.refl _ _⟩
set_option maxHeartbeats 4000000 in
set_option maxRecDepth 100000 in
theorem dCut_nil (i : Int) : Calls Try.prog 28 #[.pointer none, .int .i64 i] w fun e w' => e = .returned (.tuple #[]) ∧ Below w.heap.size w w' := by
  go_enter Try.func28, Try.ntmps28
  go_wp2
  (try simp only [Exit.inBlock, Exit.then])
  refine bodyPost_ret (results_none rfl _ _ _) rfl ?_
  exact ⟨rfl, Below.refl _ _⟩
set_option maxHeartbeats 4000000 in
set_option maxRecDepth 100000 in
theorem dSteps_nil : Calls Try.prog 25 #[.pointer none] w fun e w' => e = .returned (.int .u64 0) ∧ Below w.heap.size w w' := by
  go_enter Try.func25, Try.ntmps25
  go_wp2
  go_ret
  exact ⟨rfl, Below.refl _ _⟩
set_option maxHeartbeats 4000000 in
set_option maxRecDepth 100000 in
theorem dDown_nil : Calls Try.prog 26 #[.pointer none] w fun e w' => e = .returned (.bool false) ∧ Below w.heap.size w w' := by
  go_enter Try.func26, Try.ntmps26
  go_wp2
  go_ret
  exact ⟨rfl, Below.refl _ _⟩
set_option maxHeartbeats 4000000 in
set_option maxRecDepth 100000 in
theorem dFork_nil : Calls Try.prog 44 #[.pointer none] w fun e w' => e = .returned (.pointer none) ∧ Below w.heap.size w w' := by
  go_enter Try.func44, Try.ntmps44
  go_wp2
  go_ret
  exact ⟨rfl, Below.refl _ _⟩
set_option maxHeartbeats 4000000 in
set_option maxRecDepth 100000 in
theorem dWrite_nil (i : Int) (b : Value) : Calls Try.prog 34 #[.pointer none, .int .i64 i, b] w fun e w' => e = .returned (.int .i64 1) ∧ Below w.heap.size w w' := by
  go_enter Try.func34, Try.ntmps34
  go_wp2
  go_ret
  exact ⟨rfl, Below.refl _ _⟩
set_option maxHeartbeats 4000000 in
set_option maxRecDepth 100000 in
theorem dStep_nil : Calls Try.prog 31 #[.pointer none] w fun e w' => e = .returned (.int .i64 1) ∧ Below w.heap.size w w' := by
  go_enter Try.func31, Try.ntmps31
  go_wp2
  go_ret
  exact ⟨rfl, Below.refl _ _⟩
set_option maxHeartbeats 4000000 in
set_option maxRecDepth 100000 in
theorem dSync_nil : Calls Try.prog 39 #[.pointer none] w fun e w' => e = .returned (.int .i64 1) ∧ Below w.heap.size w w' := by
  go_enter Try.func39, Try.ntmps39
  go_wp2_with fail
  refine (dStep_nil w).mono ?_
  rintro e w1 ⟨rfl, hb⟩
  have HB := hid hb
  clear hb
  go_wp2
  go_ret
  exact ⟨rfl, HB.out⟩
set_option maxHeartbeats 4000000 in
set_option maxRecDepth 100000 in
theorem dCrash_nil (b : Value) : Calls Try.prog 29 #[.pointer none, b] w fun e w' => e = .returned (.int .i64 1) ∧ Below w.heap.size w w' := by
  go_enter Try.func29, Try.ntmps29
  go_wp2
  go_ret
  exact ⟨rfl, Below.refl _ _⟩
set_option maxHeartbeats 4000000 in
set_option maxRecDepth 100000 in
theorem dForeign_nil (i at0 : Int) (b : Value) : Calls Try.prog 42 #[.pointer none, .int .i64 i, .int .i64 at0, b] w fun e w' => e = .returned (.int .i64 1) ∧ Below w.heap.size w w' := by
  go_enter Try.func42, Try.ntmps42
  go_wp2
  go_ret
  exact ⟨rfl, Below.refl _ _⟩
end
end Go.Proofs.Ytlbhoijjbpjmoaa
