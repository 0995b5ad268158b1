/-
  The program's device: Foreign.
-/
import Derived.Test.YtlbhoijjbpjmoaaPdt
import Derived.Test.YtlbhoijjbpjmoaaCn
namespace Go.Proofs.Ytlbhoijjbpjmoaa
open Go.RowKit
set_option linter.unusedVariables false
set_option linter.unusedSimpArgs false

theorem bin_flat1 {w : World} {b o n : Nat} {bs : List Int} (h : ∀ i, i < bs.length → w.cell? ⟨b, o + i, none⟩ = some (.int .u8 (bs.getD i 0))) (ho : Oct bs) (hl : bs.length = n) : ∀ j u, (vals n (flat1 bs))[j]? = some u → w.cell? ((⟨b, o, none⟩ : Addr).add j) = some u := fun j u hj => by
  have hjn : j < n := by have := (List.getElem?_eq_some_iff.1 hj).1; rwa [vals_length] at this
  rw [vals_at _ _ _ hjn] at hj
  rw [Addr.add_mid, h j (by omega), ← hj]
  have := ho.at j
  congr 2
  unfold flat1
  omega
/-- Bytes copied, none too. -/
theorem wpList_copy_bin {P : Program} {ops : Array Oper} {rest : List Oper} {o : Oper} {a : Act} {w : World} {Q : Exit → Act → World → Prop}
    (hg : o.guard = none) (s x : Operand) (t1 t2 : TypeId) (hop : o.op = Op.call { callee := Callee.builtin Builtin.copy, args := #[s, x], argTypes := #[t1, t2] })
    (e : TypeId) (h1 : P.underlying t1 = some (.slice e)) (h2 : (P.info? e).map (·.size) = some 1)
    (b off dn dcap : Nat) (hs : a.eval s = .slice (some ⟨b, off, none⟩) dn dcap)
    (p : Option Addr) (n c : Nat) (bs : List Int) (hx : a.eval x = .slice p n c) (hb : Bin w p bs) (ho : Oct bs) (hl : bs.length = n) (hdn : n ≤ dn) (ht : 0 < n → w.there b off n)
    (hK : wpList P ops Q rest (a.put o.dst (goInt n)) (w.setCells b off (vals n (flat1 bs)))) : wpList P ops Q (o :: rest) a w := by
  by_cases hn : 0 < n
  · obtain ⟨b', o', rfl, _, hc⟩ := hb.at (by omega)
    refine wpList_copy_cells hg s x t1 t2 hop e h1 h2 b off dn dcap hs ⟨b', o', none⟩ n c hx (vals n (flat1 bs)) (by rw [vals_length]; exact (Nat.min_eq_left hdn).symm) (bin_flat1 hc ho hl) (by rw [vals_length]; exact ht hn) (vals_one _ _) ?_
    rw [vals_length]
    exact hK
  · obtain rfl : n = 0 := by omega
    refine wpList_plain hg fun K hK' => ?_
    have hrun := run_copy_none (P := P) w t1 t2 o.type e (some ⟨b, off, none⟩) p dn dcap 0 c h1 h2 (Nat.min_eq_left (Nat.zero_le _))
    unfold Oper.wp
    simp [execOp, hop, resolve, invoke, builtin, hs, hx, hrun, Result.andThen]
    exact hK' _ _ hK

/-- From the byte at0 of block k on. -/
theorem slice_from (b k at0 : Nat) (h : at0 ≤ 256) : ∃ off, (0 < 256 - at0 → off = k * 256 + at0) ∧ ∀ w, (Instr.sliceAt 81 (.pointer (some ⟨b, k * 256, none⟩)) (some (.int .i64 (at0 : Nat))) none none).run Try.prog w = .ok (.slice (some ⟨b, off, none⟩) (256 - at0) (256 - at0)) w := by
  have hu := Try.underlying81
  by_cases he : at0 = 256
  · subst he
    exact ⟨k * 256, fun h => absurd h (by decide), fun w => by go_simp⟩
  · refine ⟨k * 256 + at0, fun _ => rfl, fun w => ?_⟩
    have i7 : ¬ 256 = at0 := fun e => he e.symm
    have i8 : (at0 : Int) ≤ 256 := by omega
    go_simp
section
variable {B g : Nat} {F : Nat → Prop} {S : Dst} {w : World}
theorem setCells_nil_off {w : World} {b o o' n : Nat} {f : Nat → Nat} (h : 0 < n → o = o') : w.setCells b o (vals n f) = w.setCells b o' (vals n f) := by
  by_cases hn : 0 < n
  · rw [h hn]
  · obtain rfl : n = 0 := by omega
    rfl
set_option maxHeartbeats 8000000 in
set_option maxRecDepth 100000 in
theorem dForeign_at (h : PDk B w g F S) (i at0 : Int) (hi : (Lit.int .i64 i).wf = true) (ha : (Lit.int .i64 at0).wf = true) (p : Option Addr) (c n : Nat) (bs : List Int) (hp : Bin w p bs) (ho : Oct bs) (hl : bs.length = n) (hc : n ≤ c) (hm : n ≤ 140737488351232) (hF : ∀ a, p = some a → 0 < n → ¬ F a.block) :
    Calls Try.prog 42 #[.pointer (some ⟨g, 0, none⟩), .int .i64 i, .int .i64 at0, .slice p n c] w fun e w' => e = .returned (.int .i64 (S.foreignE i at0 bs)) ∧ Dstep B w g F (S.foreign i at0 bs) w' := by
  have hh := dHas_at h i
  have ha2 := i64_of_wf ha
  have hok := Dst.ok_foreign h.ok i at0 ho
  unfold Dst.foreignE
  by_cases hno : S.has i = false ∨ at0 < 0 ∨ 256 < at0 + bs.length
  · rw [if_pos hno, show S.foreign i at0 bs = S from if_pos hno]
    have H := hid h
    have e3 : at0 < 0 ∨ 0 ≤ at0 := by omega
    clear h hok hp ho hF hi
    rw [hl] at hno
    have post : ∀ w', w' = w → Dstep B w g F S w' := fun w1 e => (by rw [e]; exact ⟨F, H.out, Tb.refl _ _, fun q hq => .inl hq⟩)
    have HP := hid post
    clear post
    cases hb : S.has i with
    | false =>
      rw [hb] at hh
      clear hno e3 ha2 hm
      go_enter Try.func42, Try.ntmps42
      go_wp2_with fail
      refine hh.mono ?_
      rintro e w1 ⟨rfl, rfl⟩
      go_wp2
      go_ret
      exact ⟨rfl, HP.out _ rfl⟩
    | true =>
      rw [hb] at hh hno
      by_cases h0 : at0 < 0
      · clear hno e3 ha2 hm
        go_enter Try.func42, Try.ntmps42
        go_wp2_with fail
        refine hh.mono ?_
        rintro e w1 ⟨rfl, rfl⟩
        go_wp2
        go_ret
        exact ⟨rfl, HP.out _ rfl⟩
      · have h1 : 256 < at0 + n := by rcases hno with h1 | h1 | h1; cases h1; exact absurd h1 h0; exact h1
        have i1 : IntKind.i64.wrap (256 - at0) = 256 - at0 := by simp [IntKind.wrap, IntKind.signed, IntKind.bits]; omega
        have i2 : 256 - at0 < (n : Int) := by omega
        have h0' : ¬ at0 < 0 := h0
        clear hno e3 ha2 hm h1
        go_enter Try.func42, Try.ntmps42
        go_wp2_with fail
        refine hh.mono ?_
        rintro e w1 ⟨rfl, rfl⟩
        go_wp2
        go_ret
        exact ⟨rfl, HP.out _ rfl⟩
  · rw [if_neg hno]
    have hfo : S.foreign i at0 bs = { S with now := putB S.now i.toNat (Dst.lay (S.now i.toNat) at0.toNat bs), firm := putB S.firm i.toNat (Dst.lay (S.firm i.toNat) at0.toNat bs) } := if_neg hno
    have h1 : ¬ S.has i = false := fun e => hno (.inl e)
    have h0 : ¬ at0 < 0 := fun e => hno (.inr (.inl e))
    have h2 : ¬ 256 < at0 + (bs.length : Int) := fun e => hno (.inr (.inr e))
    obtain ⟨hi0, hi1, hi2⟩ := Dst.has_lt h1
    have h1t : S.has i = true := by simpa using h1
    rw [h1t] at hh
    rw [hfo] at hok ⊢
    obtain ⟨k, rfl⟩ : ∃ k : Nat, i = (k : Int) := ⟨i.toNat, by omega⟩
    obtain ⟨t, rfl⟩ : ∃ t : Nat, at0 = (t : Int) := ⟨at0.toNat, by omega⟩
    rw [Int.toNat_natCast] at hi2
    rw [Int.toNat_natCast, Int.toNat_natCast] at hok ⊢
    rw [hl] at h2
    have ht : t + n ≤ 256 := by omega
    have hcalm := h.calm
    have hwl := h.hw
    have hss := h.hs
    have hfg := h.fg
    have okn := (h.ok.now k hi2).1
    have okf := (h.ok.firm k hi2).1
    obtain ⟨kN, cN, kF, cF, vW, fl, ct, hv, hrel⟩ := h.at'
    have c0 := hv.c0
    have c1 := hv.c1
    obtain ⟨oN, hoN, eN⟩ := slice_from kN k t (by omega)
    obtain ⟨oF, hoF, eF⟩ := slice_from kF k t (by omega)
    obtain ⟨N, hN⟩ : ∃ n, Hid (n = S.n) := ⟨_, rfl⟩
    rw [← hN.out] at c0 c1 hi1
    -- the worlds
    obtain ⟨w1, hw1⟩ : ∃ w1, Hid (w1 = w.setCells kN oN (vals n (flat1 bs))) := ⟨_, rfl⟩
    obtain ⟨w2, hw2⟩ : ∃ w2, Hid (w2 = w1.setCells kF oF (vals n (flat1 bs))) := ⟨_, rfl⟩
    have e1 : w1 = w.setCells kN (k * 256 + t) (vals n (flat1 bs)) := hw1.out.trans (setCells_nil_off fun hn => hoN (by omega))
    have e2 : w2 = w1.setCells kF (k * 256 + t) (vals n (flat1 bs)) := hw2.out.trans (setCells_nil_off fun hn => hoF (by omega))
    have hv1 : PDv B w1 g F S.n kN cN kF cF vW (putB S.now k (Dst.lay (S.now k) t bs)) S.firm S.ws S.down S.steps fl ct := by
      rw [e1]; exact hv.cellsN _ _ _ (hv.aN.putLay hi2 okn hl ht)
    have hv2 : PDv B w2 g F S.n kN cN kF cF vW (putB S.now k (Dst.lay (S.now k) t bs)) (putB S.firm k (Dst.lay (S.firm k) t bs)) S.ws S.down S.steps fl ct := by
      rw [e2]; exact hv1.cellsF _ _ _ (hv1.aF.putLay hi2 okf hl ht)
    have t1 : Tb F w w1 := by rw [e1]; exact Tb.setCells (F := F) (b := kN) (Tb.refl _ w) (.inl hv.fN.1) _ _
    have t2 : Tb F w w2 := by rw [e2]; exact Tb.setCells (F := F) (b := kF) t1 (.inl hv.fF.1) _ _
    have hp1 : Bin w1 p bs := by
      by_cases hn : 0 < n
      · exact hp.tb t1 fun a ha => hF a ha hn
      · exact fun h => absurd h (by omega)
    have HK : Hid (Dstep B w g F { S with now := putB S.now k (Dst.lay (S.now k) t bs), firm := putB S.firm k (Dst.lay (S.firm k) t bs) } w2) := hid ⟨F, ⟨hv2.lt, hfg, hok, hss, hwl, fun j hj hq => by
      show putB S.now k (Dst.lay (S.now k) t bs) j = putB S.firm k (Dst.lay (S.firm k) t bs) j
      have hjj := hcalm j hj hq
      unfold putB
      by_cases hjk : j = k
      · subst hjk; rw [if_pos rfl, if_pos rfl, hjj]
      · rw [if_neg hjk, if_neg hjk, hjj], kN, cN, kF, cF, vW, fl, ct, hv2, hrel⟩, t2, fun q hq => .inl hq⟩
    have ht0 : Hid (0 < n → w.there kN oN n) := hid fun hn => by rw [hoN (by omega)]; exact hv.aN.thereAt (by omega)
    have ht1 : Hid (0 < n → w1.there kF oF n) := hid fun hn => by rw [hoF (by omega)]; exact hv1.aF.thereAt (by omega)
    have c1' : w1.cell? ⟨g, 1, none⟩ = some (.slice (some ⟨kF, 0, none⟩) N cF) := by rw [hN.out]; exact hv1.c1
    have HP := hid hp
    have HP1 := hid hp1
    have HO := hid ho
    have HL := hid hl
    have HC1 := hid c1'
    have i1 : IntKind.i64.wrap (256 - (t : Int)) = 256 - (t : Int) := by simp [IntKind.wrap, IntKind.signed, IntKind.bits]; omega
    have i2 : ¬ 256 - (t : Int) < (n : Int) := by omega
    have i3 : (k : Int) < (N : Int) := by omega
    have hd : n ≤ 256 - t := by omega
    clear hwl hno hfo h1 h2 hi0 h1t hok hcalm hss okn okf hrel hv hv1 hv2 e1 e2 t1 t2 hp hp1 ho hl hoN hoF c1' hF h hi ha ha2 hm hi1
    go_enter Try.func42, Try.ntmps42
    go_wp2_with fail
    refine hh.mono ?_
    rintro e w0 ⟨rfl, rfl⟩
    clear hh
    go_upto_region 6 with (with_reducible refine wpList_copy_bin rfl (.tmp 33) (.tmp 34) 31 31 rfl 5 Try.underlying31 Try.sizeByte kN oN (256 - t) (256 - t) rfl p n c bs rfl (by exact HP.out) (by exact HO.out) (by exact HL.out) hd (by exact ht0.out) ?_)
    rw [← hw1.out]
    have c1 := HC1.out
    clear c0 HP eN
    go_wp2_with (with_reducible refine wpList_copy_bin rfl (.tmp 43) (.tmp 44) 31 31 rfl 5 Try.underlying31 Try.sizeByte kF oF (256 - t) (256 - t) rfl p n c bs rfl (by exact HP1.out) (by exact HO.out) (by exact HL.out) hd (by exact ht1.out) ?_)
    rw [← hw2.out]
    go_ret
    exact ⟨rfl, HK.out⟩
end
end Go.Proofs.Ytlbhoijjbpjmoaa
