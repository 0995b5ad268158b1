/-
  DiskPlays: heavy, May, one call.
-/
import Derived.Test.YtlbhoijjbpjmoaaDp2
import Derived.Test.YtlbhoijjbpjmoaaOrw
namespace Go.Proofs.Ytlbhoijjbpjmoaa
open Go.RowKit
set_option linter.unusedVariables false
set_option linter.unusedSimpArgs false

theorem does_of {wR : World} {G : Nat → Prop} (B g g2 : Nat) (F F2 : Nat → Prop) (S : Dst) (kd i at0 : Int) (p3 : Option Addr) (c3 n3 : Nat) (b3 : List Int) (p4 : Option Addr) (c4 n4 : Nat) (b4 : List Int) (w : World) (hU : Duo wR G B w g g2 F F2 S S) (hBw : B ≤ w.heap.size)
    (hiw : (Lit.int .i64 i).wf = true) (haw : (Lit.int .i64 at0).wf = true) (h3 : Bin w p3 b3) (o3 : Oct b3) (l3 : b3.length = n3) (q3 : n3 ≤ c3) (m3 : n3 ≤ 140737488351232) (e3 : ∀ a, p3 = some a → 0 < n3 → a.block < B) (h4 : Bin w p4 b4) (o4 : Oct b4) (l4 : b4.length = n4) (q4 : n4 ≤ c4) (m4 : n4 ≤ 140737488351232) (e4 : ∀ a, p4 = some a → 0 < n4 → a.block < B) (hs : S.steps < 9223372036854775000) (hw : S.ws.length < 4294967000) :
    Calls Try.prog 21 #[.pointer (some ⟨g, 0, none⟩), .pointer (some ⟨g2, 0, none⟩), .agg #[.int .i64 kd, .int .i64 i, .int .i64 at0, .slice p3 n3 c3, .slice p4 n4 c4]] w (Plays wR G B w g2 S) := by
  by_cases k1 : kd = 1
  · subst k1; exact (does_write B g g2 F F2 S i at0 p3 c3 n3 b3 p4 c4 n4 b4 w hU hBw hiw haw h3 o3 l3 q3 m3 e3 h4 o4 l4 q4 m4 e4 hs hw).mono fun _ _ h => h.plays
  by_cases k2 : kd = 2
  · subst k2; exact (does_read B g g2 F F2 S i at0 p3 c3 n3 b3 p4 c4 n4 b4 w hU hBw hiw haw h3 o3 l3 q3 m3 e3 h4 o4 l4 q4 m4 e4 hs hw).mono fun _ _ h => h.plays
  by_cases k3 : kd = 3
  · subst k3; exact (does_sync B g g2 F F2 S i at0 p3 c3 n3 b3 p4 c4 n4 b4 w hU hBw hiw haw h3 o3 l3 q3 m3 e3 h4 o4 l4 q4 m4 e4 hs hw).mono fun _ _ h => h.plays
  by_cases k4 : kd = 4
  · subst k4; exact (does_step B g g2 F F2 S i at0 p3 c3 n3 b3 p4 c4 n4 b4 w hU hBw hiw haw h3 o3 l3 q3 m3 e3 h4 o4 l4 q4 m4 e4 hs hw).mono fun _ _ h => h.plays
  by_cases k5 : kd = 5
  · subst k5; exact (does_fail B g g2 F F2 S i at0 p3 c3 n3 b3 p4 c4 n4 b4 w hU hBw hiw haw h3 o3 l3 q3 m3 e3 h4 o4 l4 q4 m4 e4 hs hw).mono fun _ _ h => h.plays
  by_cases k6 : kd = 6
  · subst k6; exact (does_cut B g g2 F F2 S i at0 p3 c3 n3 b3 p4 c4 n4 b4 w hU hBw hiw haw h3 o3 l3 q3 m3 e3 h4 o4 l4 q4 m4 e4 hs hw).mono fun _ _ h => h.plays
  by_cases k7 : kd = 7
  · subst k7; exact (does_crash B g g2 F F2 S i at0 p3 c3 n3 b3 p4 c4 n4 b4 w hU hBw hiw haw h3 o3 l3 q3 m3 e3 h4 o4 l4 q4 m4 e4 hs hw).mono fun _ _ h => h.plays
  by_cases k8 : kd = 8
  · subst k8; exact (does_foreign B g g2 F F2 S i at0 p3 c3 n3 b3 p4 c4 n4 b4 w hU hBw hiw haw h3 o3 l3 q3 m3 e3 h4 o4 l4 q4 m4 e4 hs hw).mono fun _ _ h => h.plays
  by_cases k9 : kd = 9
  · subst k9; exact does_fork B g g2 F F2 S i at0 p3 c3 n3 b3 p4 c4 n4 b4 w hU hBw hiw haw h3 o3 l3 q3 m3 e3 h4 o4 l4 q4 m4 e4 hs hw
  by_cases k10 : kd = 10
  · subst k10; exact (does_fill B g g2 F F2 S i at0 p3 c3 n3 b3 p4 c4 n4 b4 w hU hBw hiw haw h3 o3 l3 q3 m3 e3 h4 o4 l4 q4 m4 e4 hs hw).mono fun _ _ h => h.plays
  refine (does_else B g g2 F F2 S kd i at0 p3 c3 n3 b3 p4 c4 n4 b4 w hU hBw (fun j h1 h2 e => ?_) hiw haw h3 o3 l3 q3 m3 e3 h4 o4 l4 q4 m4 e4 hs hw).mono fun _ _ h => h.plays
  have : j = 1 ∨ j = 2 ∨ j = 3 ∨ j = 4 ∨ j = 5 ∨ j = 6 ∨ j = 7 ∨ j = 8 ∨ j = 9 ∨ j = 10 := by omega
  rcases this with rfl | rfl | rfl | rfl | rfl | rfl | rfl | rfl | rfl | rfl
  · exact k1 e
  · exact k2 e
  · exact k3 e
  · exact k4 e
  · exact k5 e
  · exact k6 e
  · exact k7 e
  · exact k8 e
  · exact k9 e
  · exact k10 e

theorem does_at {wR : World} {G : Nat → Prop} (B g g2 : Nat) (F F2 : Nat → Prop) (S : Dst) (kd i at0 : Int) (p3 : Option Addr) (c3 n3 : Nat) (b3 : List Int) (p4 : Option Addr) (c4 n4 : Nat) (b4 : List Int) (w : World) (hU : Duo wR G B w g g2 F F2 S S) (hBw : B ≤ w.heap.size)
    (hiw : (Lit.int .i64 i).wf = true) (haw : (Lit.int .i64 at0).wf = true) (h3 : Bin w p3 b3) (o3 : Oct b3) (l3 : b3.length = n3) (q3 : n3 ≤ c3) (m3 : n3 ≤ 140737488351232) (e3 : ∀ a, p3 = some a → 0 < n3 → a.block < B) (h4 : Bin w p4 b4) (o4 : Oct b4) (l4 : b4.length = n4) (q4 : n4 ≤ c4) (m4 : n4 ≤ 140737488351232) (e4 : ∀ a, p4 = some a → 0 < n4 → a.block < B) (hs : S.steps < 9223372036854775000) (hw : S.ws.length < 4294967000) (k9 : ¬ kd = 9) :
    Calls Try.prog 21 #[.pointer (some ⟨g, 0, none⟩), .pointer (some ⟨g2, 0, none⟩), .agg #[.int .i64 kd, .int .i64 i, .int .i64 at0, .slice p3 n3 c3, .slice p4 n4 c4]] w (PlaysAt wR G B w g g2 S) := by
  by_cases k1 : kd = 1
  · subst k1; exact does_write B g g2 F F2 S i at0 p3 c3 n3 b3 p4 c4 n4 b4 w hU hBw hiw haw h3 o3 l3 q3 m3 e3 h4 o4 l4 q4 m4 e4 hs hw
  by_cases k2 : kd = 2
  · subst k2; exact does_read B g g2 F F2 S i at0 p3 c3 n3 b3 p4 c4 n4 b4 w hU hBw hiw haw h3 o3 l3 q3 m3 e3 h4 o4 l4 q4 m4 e4 hs hw
  by_cases k3 : kd = 3
  · subst k3; exact does_sync B g g2 F F2 S i at0 p3 c3 n3 b3 p4 c4 n4 b4 w hU hBw hiw haw h3 o3 l3 q3 m3 e3 h4 o4 l4 q4 m4 e4 hs hw
  by_cases k4 : kd = 4
  · subst k4; exact does_step B g g2 F F2 S i at0 p3 c3 n3 b3 p4 c4 n4 b4 w hU hBw hiw haw h3 o3 l3 q3 m3 e3 h4 o4 l4 q4 m4 e4 hs hw
  by_cases k5 : kd = 5
  · subst k5; exact does_fail B g g2 F F2 S i at0 p3 c3 n3 b3 p4 c4 n4 b4 w hU hBw hiw haw h3 o3 l3 q3 m3 e3 h4 o4 l4 q4 m4 e4 hs hw
  by_cases k6 : kd = 6
  · subst k6; exact does_cut B g g2 F F2 S i at0 p3 c3 n3 b3 p4 c4 n4 b4 w hU hBw hiw haw h3 o3 l3 q3 m3 e3 h4 o4 l4 q4 m4 e4 hs hw
  by_cases k7 : kd = 7
  · subst k7; exact does_crash B g g2 F F2 S i at0 p3 c3 n3 b3 p4 c4 n4 b4 w hU hBw hiw haw h3 o3 l3 q3 m3 e3 h4 o4 l4 q4 m4 e4 hs hw
  by_cases k8 : kd = 8
  · subst k8; exact does_foreign B g g2 F F2 S i at0 p3 c3 n3 b3 p4 c4 n4 b4 w hU hBw hiw haw h3 o3 l3 q3 m3 e3 h4 o4 l4 q4 m4 e4 hs hw
  by_cases k10 : kd = 10
  · subst k10; exact does_fill B g g2 F F2 S i at0 p3 c3 n3 b3 p4 c4 n4 b4 w hU hBw hiw haw h3 o3 l3 q3 m3 e3 h4 o4 l4 q4 m4 e4 hs hw
  refine does_else B g g2 F F2 S kd i at0 p3 c3 n3 b3 p4 c4 n4 b4 w hU hBw (fun j h1 h2 e => ?_) hiw haw h3 o3 l3 q3 m3 e3 h4 o4 l4 q4 m4 e4 hs hw
  have : j = 1 ∨ j = 2 ∨ j = 3 ∨ j = 4 ∨ j = 5 ∨ j = 6 ∨ j = 7 ∨ j = 8 ∨ j = 9 ∨ j = 10 := by omega
  rcases this with rfl | rfl | rfl | rfl | rfl | rfl | rfl | rfl | rfl | rfl
  · exact k1 e
  · exact k2 e
  · exact k3 e
  · exact k4 e
  · exact k5 e
  · exact k6 e
  · exact k7 e
  · exact k8 e
  · exact k9 e
  · exact k10 e
end Go.Proofs.Ytlbhoijjbpjmoaa
