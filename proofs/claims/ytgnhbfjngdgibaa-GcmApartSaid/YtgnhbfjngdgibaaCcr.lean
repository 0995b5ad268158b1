/-
  The contract of the program's Crypt.
-/
import Derived.Test.YtgnhbfjngdgibaaCst
import Derived.Test.YtgnhbfjngdgibaaKa
import Derived.Sort.CutIn
import Derived.Laws.EntriesVeiled
namespace Go.Proofs.Ytgnhbfjngdgibaa
open Go.RowKit Go.Shelf
set_option linter.unusedVariables false
set_option linter.unusedSimpArgs false
attribute [local go_sem] Oper.semAt_some

/-- make([]T, n, c), T of one cell: the world behind. -/
theorem wpList_make_at {P : Program} (w : World) {ops : Array Oper} {rest : List Oper} {o : Oper} {a : Act} {Q : Exit → Act → World → Prop}
    (hg : o.guard = none) (l c : Operand) (t : TypeId) (hop : o.op = Op.makeSlice t l c)
    (e : TypeId) (i : TypeInfo) (z : Value) (hz : z.cells = #[z]) (h1 : P.underlying t = some (.slice e)) (h2 : P.info? e = some i) (h3 : i.zero = some z) (h4 : i.size = 1) (h5 : i.bytes = 1)
    (kl kc : IntKind) (L C : Int) (n m : Nat) (hl : a.eval l = .int kl L) (hc : a.eval c = .int kc C) (hL : L = (n : Int)) (hC : C = (m : Int)) (hnm : n ≤ m) (b2 : m ≤ 281474976710656)
    (hK : wpList P ops Q rest (a.put o.dst (.slice (some ⟨w.heap.size, 0, none⟩) n m)) (w.alloc (.cells (List.replicate m z).toArray e))) :
    wpList P ops Q (o :: rest) a w := by
  refine wpList_plain hg fun K hK' => ?_
  subst hL hC
  have hr := run_make (P := P) w t e i z h1 h2 h3 kl kc n m (by omega) (by omega) (by rw [h5]; omega) (by omega)
  simp only [Int.toNat_natCast, h4] at hr
  rw [made_list z m hz] at hr
  unfold Oper.wp
  simp [execOp, hop, hl, hc, hr, Result.andThen]
  exact hK' _ _ hK

set_option maxHeartbeats 8000000 in
set_option maxRecDepth 100000 in
theorem crypt_of (pk pn pt : Option Addr) (ck cn ct nk : Nat) (ks ns ts : List Int) (w : World) (hkp : Bin w pk ks) (hks : Oct ks) (hkl : ks.length = nk) (hnk : nk = 16 ∨ nk = 32) (hkc : nk ≤ ck)
    (hnp : Bin w pn ns) (hns : Oct ns) (hnl : ns.length = 12) (htp : Bin w pt ts) (hts : Oct ts) (hm : ts.length ≤ 65536) (htc : ts.length ≤ ct) :
    Calls Try.prog 30 #[.slice pk nk ck, .slice pn (12 : Nat) cn, .slice pt ts.length ct] w fun e w' => ∃ v, e = .returned (.tuple #[v, .int .i64 0]) ∧
      Own w.heap.size w' v ts.length (cry (enc (wordB (nk / 4) (nats ks)) (nk / 4 + 6)) (frs ns) ts) ∧ Below w.heap.size w w' := by
  obtain ⟨i0, hi, hz0, hz1, hz2⟩ := info_parts Try.infoU8
  have hzb := Try.zeroBlock
  have oc := frs_lt hns
  obtain ⟨F, hF⟩ : ∃ F, Hid (F = wordB (nk / 4) (nats ks)) := ⟨_, rfl⟩
  obtain ⟨r, hre⟩ : ∃ r, Hid (r = nk / 4 + 6) := ⟨_, rfl⟩
  obtain ⟨c0, hc0⟩ : ∃ c0, Hid (c0 = frs ns) := ⟨_, rfl⟩
  have hnew := new_new pk ck nk ks w hkp hks hkl hkc hnk
  have hfirst := fun w' hp => first_of pn cn ns w' hp hns hnl
  rw [← hc0.out] at oc hfirst ⊢
  rw [← hF.out, ← hre.out] at hnew ⊢
  have HNEW := hid hnew
  have HFIRST := hid hfirst
  clear hnew hfirst
  refine (callsIn_wide (n := 4)).1 ?_
  refine callsIn_of_wp_marks Try.func30 rfl trivial ?_ rfl
  simp only [Try.ntmps30, List.size_toArray, List.length_cons, List.length_nil, Nat.reduceAdd, Nat.reduceSub, Array.replicate_succ, Array.replicate_zero, List.push_toArray, List.append_toArray, List.nil_append, List.cons_append]
  gi_upto_region 4 with (refine ⟨trivial, (callsIn_wide.2 HNEW.out).mono ?_⟩; rintro e w1 ⟨c, kb, r', F', rfl, hC, hrF, hr, oF, hb1, _, _⟩; clear HNEW)
  obtain ⟨e1, e2⟩ := hrF.out
  subst e1
  subst e2
  clear hrF
  refine wpIn_wide.2 ?_
  go_wp2_with fail
  refine (HFIRST.out w1 (hnp.below hb1)).mono ?_
  rintro e w2 ⟨rfl, hb2⟩
  have hC2 := hC.below hb2
  have hB2 := hb1.trans (hb2.mono hb1.size)
  have hn2 := arr_new w2 16 (fun _ => 0) 44
  have H3 := hid (And.intro (hn2.put c0) (And.intro ((hC2.below ((Below.refl w2.heap.size w2).alloc (Nat.le_refl _) (.cells (vals 16 fun _ => 0).toArray 44))).beside (g := w2.heap.size) (by have := hC2.lt; omega) (by have := hC2.lt; omega) (vals 16 c0)) (below_setCells (vals 16 c0) 0 (hB2.alloc hB2.size (.cells (vals 16 fun _ => 0).toArray 44)) hB2.size)))
  have HN := hid hn2
  clear HFIRST hC hb1 hb2 hC2 hB2 hn2
  go_wp2_with (refine wpList_store_arr rfl 44 _ _ rfl w2.heap.size 16 c0 rfl rfl (fun _ => 0) ?_ Try.sizeBlock ?_; exact HN.out)
  clear HN
  obtain ⟨hA3, hC3, hB3⟩ := H3.out
  clear H3
  obtain ⟨b0, hb0⟩ : ∃ b0, Hid (b0 = w2.heap.size) := ⟨_, rfl⟩
  rw [← hb0.out] at hA3 hC3 hB3 ⊢
  generalize (w2.alloc (.cells (vals 16 fun _ => 0).toArray 44)).setCells b0 0 (vals 16 c0) = w3 at hA3 hC3 hB3 ⊢
  gi_upto_region 9 with fail
  refine wpIn_wide.2 ?_
  have HA3 := hid hA3
  clear hA3
  go_wp2_with (refine wpList_load_arr rfl 44 _ rfl b0 rfl 16 c0 ?_ _ Try.underlying44 rfl Try.sizeBlock ?_; exact HA3.out)
  refine (stream_of c c0 w3).mono ?_
  rintro e w' ⟨rfl, rfl⟩
  clear HA3
  go_wp2_with fail
  gi_upto_region 10 with fail
  obtain ⟨q, hq⟩ : ∃ q, Hid (q = w3.heap.size) := ⟨_, rfl⟩
  have hcq := hC3.lt
  rw [← hq.out] at hcq ⊢
  obtain ⟨w4, hw4⟩ : ∃ w4, Hid (w4 = ((w3.alloc (.cells #[.pointer (some ⟨c, 0, none⟩)] 53)).alloc (.cells (vals 16 c0).toArray 44)).alloc (.cells #[.func (.func 53) #[] #[.pointer (some ⟨q + 1, 0, none⟩), .pointer (some ⟨q, 0, none⟩)]] 59)) := ⟨_, rfl⟩
  have hA4 : Arr w4 (q + 1) 16 c0 := by
    rw [hw4.out, hq.out]
    have := (arr_new (w3.alloc (.cells #[.pointer (some ⟨c, 0, none⟩)] 53)) 16 c0 44).alloc (.cells #[.func (.func 53) #[] #[.pointer (some ⟨w3.heap.size + 1, 0, none⟩), .pointer (some ⟨w3.heap.size, 0, none⟩)]] 59)
    simpa using this
  have hp4 : w4.cell? ⟨q, 0, none⟩ = some (.pointer (some ⟨c, 0, none⟩)) := by rw [hw4.out, hq.out]; exact (((Boxed.new w3 53 (.pointer (some ⟨c, 0, none⟩))).alloc _).alloc _).cell
  have hf4 : w4.cell? ⟨q + 2, 0, none⟩ = some (.func (.func 53) #[] #[.pointer (some ⟨q + 1, 0, none⟩), .pointer (some ⟨q, 0, none⟩)]) := by
    rw [hw4.out, hq.out]
    have := (Boxed.new ((w3.alloc (.cells #[.pointer (some ⟨c, 0, none⟩)] 53)).alloc (.cells (vals 16 c0).toArray 44)) 59 (.func (.func 53) #[] #[.pointer (some ⟨w3.heap.size + 1, 0, none⟩), .pointer (some ⟨w3.heap.size, 0, none⟩)])).cell
    simpa using this
  have hb4 : Below w3.heap.size w3 w4 := by rw [hw4.out]; exact (((Below.refl w3.heap.size w3).alloc (Nat.le_refl _) _).alloc (by simp) _).alloc (by simp; omega) _
  have hs4 : w4.heap.size = q + 3 := by rw [hw4.out, hq.out]; simp
  rw [show q + 1 + 1 = q + 2 from rfl, ← hw4.out]
  have hC4 := hC3.below hb4
  have hB4 := hB3.trans (hb4.mono hB3.size)
  clear hw4 hb4 hC3 hB3
  have hwq : w.heap.size ≤ q := by have := hB4.size; have := hq.out; omega
  refine wpIn_wide.2 ?_
  go_wp2_with (at_make; refine wpList_make_at _ rfl _ _ 22 rfl 5 i0 (.int .u8 0) rfl Try.underlying22 hi hz0 hz1 hz2 .i64 .i64 _ _ 0 ts.length rfl rfl rfl (by omega) (by omega) (by omega) ?_)
  gi_upto_region 12 with (refine ⟨trivial, (callsIn_wide.2 (chunk_of pt ts.length ct _)).mono ?_⟩; rintro e w' ⟨rfl, rfl⟩)
  obtain ⟨E, hE⟩ : ∃ E, Hid (E = enc F' r') := ⟨_, rfl⟩
  obtain ⟨w6, hw6⟩ : ∃ w6, Hid (w6 = (((w4.alloc (.cells (Array.replicate ts.length (.int .u8 0)) 5)).alloc (.cells #[.slice (some ⟨q + 3, 0, none⟩) 0 ts.length] 22)).alloc (.cells #[.slice pt ts.length ct] 22)).alloc (.cells #[.int .i64 16] 3)) := ⟨_, rfl⟩
  have hs6 : w6.heap.size = q + 7 := by rw [hw6.out]; simp [World.size_alloc, hs4]
  have hb6 : Below w4.heap.size w4 w6 := by rw [hw6.out]; exact ((((Below.refl w4.heap.size w4).alloc (Nat.le_refl _) _).alloc (by simp) _).alloc (by simp; omega) _).alloc (by simp; omega) _
  have hO6 : Own (q + 3) w6 (.slice (some ⟨q + 3, 0, none⟩) 0 ts.length) 0 [] := by
    refine ⟨rfl, .inr ⟨q + 3, ts.length, (Array.replicate ts.length (.int .u8 0)), rfl, Nat.le_refl _, ?_, Nat.zero_le _, by unfold maxLen; omega, by simp, by simp⟩⟩
    have hb : Below (w4.alloc (.cells (Array.replicate ts.length (.int .u8 0)) 5)).heap.size (w4.alloc (.cells (Array.replicate ts.length (.int .u8 0)) 5)) w6 := by
      rw [hw6.out]; exact (((Below.refl _ _).alloc (Nat.le_refl _) _).alloc (by simp) _).alloc (by simp) _
    rw [hb.block (q + 3) (by simp; omega), ← hs4]
    exact World.alloc_heap_new w4 _
  have hx4 : Boxed w6 (q + 4) 22 (.slice (some ⟨q + 3, 0, none⟩) 0 ts.length) := by
    rw [hw6.out]
    have := ((Boxed.new (w4.alloc (.cells (Array.replicate ts.length (.int .u8 0)) 5)) 22 (.slice (some ⟨q + 3, 0, none⟩) 0 ts.length)).alloc (.cells #[.slice pt ts.length ct] 22)).alloc (.cells #[.int .i64 16] 3)
    rwa [World.size_alloc, hs4] at this
  have hx5 : Boxed w6 (q + 5) 22 (.slice pt ts.length ct) := by
    rw [hw6.out]
    have := (Boxed.new ((w4.alloc (.cells (Array.replicate ts.length (.int .u8 0)) 5)).alloc (.cells #[.slice (some ⟨q + 3, 0, none⟩) 0 ts.length] 22)) 22 (.slice pt ts.length ct)).alloc (.cells #[.int .i64 16] 3)
    rwa [World.size_alloc, World.size_alloc, hs4] at this
  have hx6 : Boxed w6 (q + 6) 3 (.int .i64 16) := by
    rw [hw6.out]
    have := Boxed.new (((w4.alloc (.cells (Array.replicate ts.length (.int .u8 0)) 5)).alloc (.cells #[.slice (some ⟨q + 3, 0, none⟩) 0 ts.length] 22)).alloc (.cells #[.slice pt ts.length ct] 22)) 3 (.int .i64 16)
    rwa [World.size_alloc, World.size_alloc, World.size_alloc, hs4] at this
  have h0 : CSt w q c kb r' F' c0 (.slice pt ts.length ct) (catL E c0 ts []) 0 w6 :=
    ⟨hA4.below hb6, ⟨_, hx4, hO6⟩, hC4.below hb6, (hb6.cell (p := ⟨q, 0, none⟩) (by show q < w4.heap.size; omega)).trans hp4, (hb6.cell (p := ⟨q + 2, 0, none⟩) (by show q + 2 < w4.heap.size; omega)).trans hf4, hx5, hx6, hB4.trans (hb6.mono hB4.size)⟩
  rw [← hw6.out]
  simp only [Nat.add_assoc, Nat.reduceAdd]
  have hst := chunk_stops 3 (q + 5) (q + 6) ts.length ct pt (by decide) (by omega) htc (fun hl => by obtain ⟨b, o, e, _⟩ := htp hl; exact ⟨b, o, e⟩) w6 hx5.cell hx6.cell
  clear hw6 hA4 hp4 hf4 hC4 hB4 hb6 hO6 hx4 hx5 hx6
  refine wpIn_rangeFunc_ownF rfl (by decide) (gf := 55) rfl trivial (enters_of Try.func55 (by kernel_rfl) rfl) hst (fun h k => h.t k) (Kp2.b (by omega) (by omega)) (Below.refl _ _) (fun _ => rfl)
    (fun pre W => CSt w q c kb r' F' c0 (.slice pt ts.length ct) (catL E c0 ts pre) pre.length W) (fun _ _ _ => False)
    (fun pre W W' row h hg hrow => h.abide hg (fun j e => ⟨by have := (hrow j e).1; omega, (hrow j e).2⟩)) (fun _ _ _ _ _ hs _ _ => hs) h0 ?a₁ ?assign ?body ?done ?stop
  case assign =>
    intro l x W K hK
    gi_wp2
    exact hK
  case body =>
    intro l pre x W hS hlen
    have hS' := hS
    obtain ⟨a1, _, a3, a4, a5, a6, a7, _⟩ := hS'
    have l5 : q + 5 < W.heap.size := a6.lt
    have l6 : q + 6 < W.heap.size := a7.lt
    have hoc := nxtN_lt oc pre.length
    have htick := tick_of c kb r' (q + 1) q F' (nxtN pre.length c0) W oF hoc hr a3 a1 a4 (by omega) (by omega) (by omega)
    have e1 : nxt (nxtN pre.length c0) = nxtN (pre.length + 1) c0 := rfl
    rw [e1, ← hE.out] at htick
    have oz : ∀ j, E (nxtN (pre.length + 1) c0) j < 256 := fun j => by rw [hE.out]; exact enc_lt oF (nxtN_lt oc _) r' j
    obtain ⟨z, hz⟩ : ∃ z, Hid (z = E (nxtN (pre.length + 1) c0)) := ⟨_, rfl⟩
    rw [← hz.out] at htick oz
    have HT := hid htick
    have HA1 := hid a1
    have HS := hid hS
    clear htick e1 hoc a1 a3 a4 a6 a7 hS
    refine wpIn_block (wpIn_seq (wpIn_region_of l (.inr rfl) (letsOut_then (letsOut_block letsOut_ownK)) (by simp) ?_))
    go_wp2_with fail
    refine HT.out.mono ?_
    rintro e w7 ⟨rfl, hA7, hg7⟩
    clear HT
    have hS7 := HS.out.tick hA7 hg7 hcq.1 hcq.2 hwq
    have hK7 := keeps_tick hg7 HA1.out
    have hP7 : Kp2 (q + 5) (q + 6) W w7 := Kp2.grown hg7 l5 l6 (by simp) (by simp)
    have l57 : q + 5 < w7.heap.size := Nat.lt_of_lt_of_le l5 hg7.size
    have l67 : q + 6 < w7.heap.size := Nat.lt_of_lt_of_le l6 hg7.size
    have hn7 := arr_new w7 16 (fun _ => 0) 44
    have hb8 := below_setCells (vals 16 z) 0 ((Below.refl w7.heap.size w7).alloc (Nat.le_refl _) (.cells (vals 16 fun _ => 0).toArray 44)) (Nat.le_refl w7.heap.size)
    have HN7 := hid hn7
    have H8 := hid (And.intro (hn7.put z) (And.intro (hS7.below hb8) (And.intro (hK7.trans (keeps_below hb8)) (And.intro (hP7.t (Kp2.below hb8 l57 l67)) hb8.size))))
    clear hA7 hg7 hS7 hK7 hP7 hn7 hb8 HS HA1 a5
    go_wp2_with (refine wpList_store_arr rfl 44 _ _ rfl w7.heap.size 16 z rfl rfl (fun _ => 0) ?_ Try.sizeBlock ?_; exact HN7.out)
    clear HN7
    obtain ⟨hA8, hS8, hK8, hP8, hz8⟩ := H8.out
    clear H8
    obtain ⟨bz, hbz⟩ : ∃ bz, Hid (bz = w7.heap.size) := ⟨_, rfl⟩
    rw [← hbz.out] at hA8 hS8 hK8 hP8 hz8 l57 l67 ⊢
    generalize (w7.alloc (.cells (vals 16 fun _ => 0).toArray 44)).setCells bz 0 (vals 16 z) = w8 at hA8 hS8 hK8 hP8 hz8 ⊢
    obtain ⟨m, hm'⟩ : ∃ m, Hid (m = chN ts.length x) := ⟨_, rfl⟩
    have hm16 : m ≤ 16 := by rw [hm'.out]; exact Nat.min_le_left _ _
    have mI : (m : Int) ≤ 16 := by omega
    have hxor := fun hy => xor_any (chP pt x) (some ⟨bz, 0, none⟩) m 16 (chL ts x) (row z m) w8 (chunk_bin (htp.below' hS8.2.2.2.2.2.2.2) x) hy (chL_oct hts x) (row_oct oz m) (by rw [row_length, chL_length, hm'.out]) (by rw [chL_length, ← hm'.out]; omega)
    rw [chL_length, ← hm'.out] at hxor
    have hxr := catL_xor E c0 hts pre x
    rw [← hz.out, ← hm'.out] at hxr
    have hxb : Bin w8 (some ⟨bz, 0, none⟩) (row z m) := fun _ => ⟨bz, 0, rfl, fun i hi => by
      rw [row_length] at hi
      rw [Nat.zero_add, (hA8 i (by omega)).1, row_at z m i hi]⟩
    have HX := hid (hxor hxb)
    have HXR := hid hxr
    clear hxor hxb hxr hA8
    show Code.wpIn _ _ _ _ _ _ _
    refine wpIn_seq (wpIn_region_of l (.inr rfl) (letsOut_then (letsOut_block letsOut_ownK)) (by simp) ?_)
    rw [← hm'.out]
    go_wp2_with fail
    refine HX.out.mono ?_
    rintro e w9 ⟨v2, rfl, hO2, hb9⟩
    clear HX
    have hS9 := hS8.below hb9
    have hK9 := hK8.trans (keeps_below hb9)
    have l58 : q + 5 < w8.heap.size := by omega
    have l68 : q + 6 < w8.heap.size := by omega
    have hP9 := hP8.t (Kp2.below hb9 l58 l68)
    obtain ⟨p2, c2, rfl, _, hb2⟩ := hO2.bin
    obtain ⟨v, bv, ov⟩ := hS9.2.1
    have hcl := catL_len E c0 ts pre
    have hsz9 : q + 3 ≤ w9.heap.size := by have := hb9.size; omega
    have hl2 : (xorL (chL ts x) (row z m)).length = m := hO2.len
    have HS9 := hid (And.intro hS9 (And.intro hK9 hP9))
    have hbx := bv.cell
    clear hS8 hS9 hK8 hK9 hP8 hP9 hO2 hb9
    go_wp2_with fail
    show Code.wpIn _ _ _ _ _ _ _
    refine wpIn_region_of l (.inr rfl) (letsOut_block letsOut_ownK) (by simp) ?_
    have HV := hid bv
    have HO := hid ov
    clear bv ov
    go_wp2_with (refine wpList_append_bin rfl (.tmp 55) (.tmp 56) 22 rfl i0 Try.underlying22 hi hz0 hz1 hz2 (q + 3) v _ _ rfl (by exact HO.out) p2 m c2 (xorL (chL ts x) (row z m)) rfl hl2 (by exact hb2) (by omega) hsz9 ?_; intro p3 c3 w10 hO3 hg3 _; obtain ⟨b1, hS10, hK10, hP10⟩ := HS9.out.1.append HV.out HO.out (by rw [hl2]; exact hO3) hg3 hcq.1 hcq.2 hwq; have hc10 := b1.cell; have hf10 := b1.frozen)
    refine ⟨HS9.out.2.1.trans hK10, HS9.out.2.2.t hP10, ?_⟩
    show CSt w q c kb r' F' c0 (.slice pt ts.length ct) (catL E c0 ts (pre ++ [x])) (pre ++ [x]).length _
    rw [HXR.out, List.length_append]
    exact hS10
  case done =>
    rintro D ys W hD rfl hS hK
    have hS' : CSt w q c kb r' F' c0 (.slice pt ts.length ct) (catL E c0 ts (List.range ((ts.length + 15) / 16))) (List.range ((ts.length + 15) / 16)).length W := hS
    rw [catL_all] at hS'
    obtain ⟨_, ⟨v, bv, ov⟩, _, _, _, _, _, hB⟩ := hS'
    rw [cry_length] at ov
    have hc := bv.cell
    have HO := hid ov
    have HB := hid hB
    clear hS bv ov hB
    gi_wp2
    refine ⟨by simp, .inl ⟨_, _, rfl, run_takeDeferred hK, ?_⟩⟩
    refine ⟨_, results_tmp2 rfl _ _ _, v, rfl, ?_, HB.out.trans (belowK_b (w := w) (Nat.le_refl _) W D _ _ (by omega) hK rfl rfl)⟩
    rw [← hE.out]
    exact Own.mono (ownsRow_putObj HO.out _ hK rfl) (by omega)
  case stop =>
    rintro D c pre W _ _ h _
    exact h.elim
end Go.Proofs.Ytgnhbfjngdgibaa
