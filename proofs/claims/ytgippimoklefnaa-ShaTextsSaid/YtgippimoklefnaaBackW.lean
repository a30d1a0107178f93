/-
  ShaBack holds, whatever the arguments: a hash goes as digits and comes back; a text that is a hash is that one's; the arguments read as they did.
-/
import Derived.Test.YtgippimoklefnaaShaO
import Derived.Test.YtgippimoklefnaaDig
import Derived.Test.YtgippimoklefnaaTop
import Derived.ChangeMaps5
namespace Go.Proofs.Ytgippimoklefnaa
open Go.ChangeShapes Go.WideShapes Go.ChangeAt Go.RowKit

theorem dg_back (n : Nat) (h : n < 16) : okD (dg n).toNat = true ∧ dvN (dg n).toNat = n := by
  have : ∀ m : Fin 16, okD (dg m.val).toNat = true ∧ dvN (dg m.val).toNat = m.val := by decide
  exact this ⟨n, h⟩
theorem dg_fwd (c : UInt8) (h : okD c.toNat = true) : dg (dvN c.toNat) = c := by
  have : ∀ c : Fin 256, okD c.val = true → (dg (dvN c.val)).toNat = c.val := by decide +kernel
  have h2 := this ⟨c.toNat, c.toNat_lt⟩ h
  exact UInt8.toNat_inj.1 h2
theorem hexL_get (xs : List UInt8) (i : Nat) (h : i < xs.length) : (hexL xs).getD (2 * i) 0 = dg (xs[i].toNat / 16) ∧ (hexL xs).getD (2 * i + 1) 0 = dg (xs[i].toNat % 16) := by
  induction xs generalizing i with
  | nil => simp at h
  | cons x r ih =>
    cases i with
    | zero => exact ⟨rfl, rfl⟩
    | succ i =>
      obtain ⟨h1, h2⟩ := ih i (by simpa using h)
      exact ⟨h1, h2⟩
/-- of a hash's digits: the hash -/
theorem unhex_hex (xs : List UInt8) (h : xs.length = 32) : unhexF (hexL xs) = (xs, 0) := by
  have hl := hexL_len xs
  rw [is_hexed (hexL xs) (by omega)]
  · congr 1
    apply List.ext_getElem (by rw [unL_len, h])
    intro i h1 h2
    obtain ⟨e1, e2⟩ := hexL_get xs i h2
    have hd : (unL (hexL xs))[i] = unB (hexL xs) i := by simp [unL]
    have hx := (xs[i]).toNat_lt
    rw [hd]
    unfold unB
    rw [e1, e2, (dg_back _ (by omega)).2, (dg_back _ (by omega)).2]
    apply UInt8.toNat_inj.1
    rw [UInt8.toNat_ofNat']
    omega
  · intro i hi
    unfold okAt
    rcases (by omega : i = 2 * (i / 2) ∨ i = 2 * (i / 2) + 1) with hp | hp
    · obtain ⟨m, hm⟩ : ∃ m, m = i / 2 := ⟨_, rfl⟩
      rw [← hm] at hp
      subst hp
      obtain ⟨e1, e2⟩ := hexL_get xs m (by omega)
      rw [e1]
      exact (dg_back _ (by have := (xs[m]'(by omega)).toNat_lt; omega)).1
    · obtain ⟨m, hm⟩ : ∃ m, m = i / 2 := ⟨_, rfl⟩
      rw [← hm] at hp
      subst hp
      obtain ⟨e1, e2⟩ := hexL_get xs m (by omega)
      rw [e2]
      exact (dg_back _ (by omega)).1
/-- of a text that is a hash: the hash's digits are the text -/
theorem hex_unhex (l : List UInt8) (h : (unhexF l).2 = 0) : hexL (unhexF l).1 = l := by
  unfold unhexF at *
  by_cases hh : hexed l = true
  · rw [if_pos hh]
    unfold hexed at hh
    rw [Bool.and_eq_true] at hh
    have hl : l.length = 64 := of_decide_eq_true hh.1
    have hok : ∀ i, i < 64 → okAt l i = true := fun i hi => List.all_eq_true.1 hh.2 i (by simpa using hi)
    have hul := unL_len l
    show hexL (unL l) = l
    apply List.ext_getElem (by rw [hexL_len, hul, hl])
    intro i h1 h2
    have hi : i < 64 := by omega
    obtain ⟨e1, e2⟩ := hexL_get (unL l) (i / 2) (by omega)
    have hd : (unL l)[i / 2]'(by omega) = unB l (i / 2) := by simp [unL]
    have hv := unB_val l (i / 2)
    have a0 := dvN_lt (l.getD (2 * (i / 2)) 0).toNat
    have a1 := dvN_lt (l.getD (2 * (i / 2) + 1) 0).toNat
    rw [hd] at e1 e2
    have eg : (hexL (unL l))[i] = (hexL (unL l)).getD i 0 := by rw [List.getD, List.getElem?_eq_getElem h1]; rfl
    have el : l[i] = l.getD i 0 := by rw [List.getD, List.getElem?_eq_getElem h2]; rfl
    suffices hgoal : (hexL (unL l)).getD i 0 = l.getD i 0 from eg.trans (hgoal.trans el.symm)
    by_cases hp : i % 2 = 0
    · have ei : 2 * (i / 2) = i := by omega
      rw [ei] at e1 hv a0 a1
      rw [e1, show (unB l (i / 2)).toNat / 16 = dvN (l.getD i 0).toNat by omega]
      exact dg_fwd _ (hok i hi)
    · have ei : 2 * (i / 2) + 1 = i := by omega
      rw [ei] at e2 hv a1
      rw [e2, show (unB l (i / 2)).toNat % 16 = dvN (l.getD i 0).toNat by omega]
      exact dg_fwd _ (hok i hi)
  · rw [if_neg hh] at h
    cases h
theorem unhexF_err (l : List UInt8) : (unhexF l).2 = 0 ∨ (unhexF l = (Z8 32, 5)) := by
  unfold unhexF
  split
  · exact .inl rfl
  · exact .inr rfl

section
variable {H : Type} {enc : TypeId × Value → H} {W : World}
/-- the hash that came in by value -/
theorem digest_of_trod {v : Value} {d : DataW H} {p : List MemPlace} {b0 : Nat} {sp : Nat → Bool} (hval : Value.okWide Try.prog W .any b0 24 v) (h0 : DataW.Trod enc Try.prog W 0 sp true 24 v d p) :
    ∃ xs : List UInt8, xs.length = 32 ∧ v = .agg (bvs xs).toArray := by
  simp only [Value.okWide, Try.underlying24] at hval
  obtain ⟨cs, rfl, hsz, -⟩ := hval
  obtain ⟨fuel, hf⟩ := h0
  obtain ⟨ys, m, rfl, hx, hlen, hyl, hel⟩ := DataW.trod_array Try.underlying24 hf
  have hc32 : cs.toList.length = 32 := hlen.trans (by kernel_rfl)
  have cell : ∀ i, i < 32 → ∃ n, cs.toList[i]? = some (.int .u8 n) ∧ (Lit.int .u8 n).wf = true := by
    intro i hi
    have h1 := hel i hi
    rw [cells1, Nat.mul_one, List.getElem?_eq_getElem (by omega)] at h1
    have e : (cs.toList.drop i).take 1 = [cs.toList[i]'(by omega)] := by
      rw [List.drop_eq_getElem_cons (by omega)]
      rfl
    have h2 : DataW.trod enc Try.prog W 0 sp true m 5 [cs.toList[i]'(by omega)] = some (ys[i]'(by omega)) := by
      rw [← e]; exact h1
    obtain ⟨n, hn, hw⟩ := int_of_cells Try.underlying5 h2
    exact ⟨n, by rw [List.getElem?_eq_getElem (by omega), hn], hw⟩
  refine ⟨cs.toList.map fun v => match v with | .int _ n => UInt8.ofNat n.toNat | _ => 0, by simpa using hc32, ?_⟩
  congr 1
  apply Array.toList_inj.1
  apply List.ext_getElem?
  intro i
  by_cases hi : i < 32
  · obtain ⟨n, h1, h2⟩ := cell i hi
    have hb := byte_of_wf h2
    simp only [bvs, List.map_map, List.getElem?_map, h1, Option.map_some, Function.comp]
    congr 2
    rw [UInt8.toNat_ofNat']
    omega
  · rw [List.getElem?_eq_none (by omega), List.getElem?_eq_none (by simp [bvs]; simpa using (by omega : cs.toList.length ≤ i))]
end

set_option maxHeartbeats 1600000 in
set_option maxRecDepth 100000 in
theorem BackW_any (xs : List UInt8) (s : ByteArray) (hx : xs.length = 32) (w : World) :
    Calls Try.prog 7 #[.agg (bvs xs).toArray, .string s] w fun e w' => e = .returned (.bool true) ∧ Below w.heap.size w w' := by
  have hhex := Hex_any xs hx
  have hun := Unhex_any (bstr (hexL xs))
  have hlx : (bstr (hexL xs)).data.toList = hexL xs := by simp [bstr]
  rw [hlx, unhex_hex xs hx] at hun
  have hun2 := Unhex_any s
  have hul := unhexF_len s.data.toList
  have hhex2 := Hex_any (unhexF s.data.toList).1 hul
  have hback := hex_unhex s.data.toList
  have herr := unhexF_err s.data.toList
  have hne : ∀ W, (binOp .neq 24 (.agg (bvs xs).toArray) (.agg (bvs xs).toArray)).run Try.prog W = .ok (.bool false) W := fun W => by
    rw [neD hx hx]; simp
  have heq : ∀ W, (binOp .eql 24 (.agg (bvs (Z8 32)).toArray) (.agg (bvs (Z8 32)).toArray)).run Try.prog W = .ok (.bool true) W := fun W => by
    rw [eqD (by simp [Z8]) (by simp [Z8])]; simp
  have hsz : Hid ((bstr (hexL xs)).size = 64) := by
    show _ = _
    have := hexL_len xs
    simp only [bstr, ByteArray.size]
    simp
    omega
  have hbs : Hid ((bvs xs).length = 32) := by show _ = _; rw [bvs_len, hx]
  have hD : Hid ((Try.prog.info? 24).map (·.size) = some (bvs xs).length) := by show _ = _; rw [hbs.out]; exact sizeD
  have H1 := Lib.hid (bvs_one xs)
  unfold HErr at hun hun2
  generalize hF : unhexF s.data.toList = F at *
  obtain ⟨ys, er⟩ := F
  simp only at hun2 hul hhex2 hback herr
  have hys1 := bvs_one ys
  have hysl : Hid ((bvs ys).length = 32) := by show _ = _; rw [bvs_len, hul]
  have hDy : Hid ((Try.prog.info? 24).map (·.size) = some (bvs ys).length) := by show _ = _; rw [hysl.out]; exact sizeD
  have hsz' := hsz.out
  have K1 := Lib.hid hhex
  have K2 := Lib.hid hun
  have K3 := Lib.hid hun2
  have K4 := Lib.hid hhex2
  have HB := Lib.hid hback
  have HE := Lib.hid herr
  have HY := Lib.hid hys1
  clear hhex hun hun2 hhex2 hback herr hys1 hF hlx hx hul
  generalize hT : bstr (hexL xs) = T at *
  clear hT
  go_enter Try.func7, Try.ntmps7
  go_wp2_with (first
    | ((with_reducible show wpList _ _ _ (⟨some 2, .box _ _, _, _, _, _⟩ :: _) _ _); refine wl_box rfl 24 _ rfl (bvs xs) rfl ?_; intro w1 hA1 hb1 hs1)
    | ((with_reducible show wpList _ _ _ (⟨some 10, .load _ _, _, _, _, _⟩ :: _) _ _); refine wl_load rfl 24 _ rfl w.heap.size 0 rfl 24 (bvs xs) (bvs xs) hA1 (fun j v h => by rw [Nat.zero_add]; exact h) (.array 32 5) Try.underlying24 rfl hD.out ?_))
  refine (K1.out _).mono ?_
  rintro e w2 ⟨rfl, hb2⟩
  go_wp2_with fail
  refine (K2.out _).mono ?_
  rintro e w3 ⟨rfl, hb3⟩
  go_upto_region 2 with (first
    | ((with_reducible show wpList _ _ _ (⟨some 5, .alloc _, _, _, _, _⟩ :: _) _ _); refine wl_alloc rfl 24 rfl (bvs (Z8 32)) 32 infoD ?_; intro w4 hA4 hb4 hs4)
    | ((with_reducible show wpList _ _ _ (⟨none, .store _ _ _, _, _, _, _⟩ :: _) _ _); refine wl_store rfl 24 _ _ rfl w3.heap.size 0 rfl (bvs xs) rfl 24 _ hA4 hD.out (by rw [hbs.out]; exact (by decide : 0 + 32 ≤ (bvs (Z8 32)).length)) H1.out ?_; intro w5 hA5 hg5 hs5))
  rw [whole_store _ _ (by rw [hbs.out]; rfl)] at hA5
  have x1 := hb2.size
  have x2 := hb3.size
  have hX5 : Arr w5 w.heap.size 24 (bvs xs) := (((hA1.to hb2 hs1).to hb3 (by omega)).to hb4 (by omega)).grown hg5 (by intro e; injection e with e; omega)
  have hB5 : Below w.heap.size w w5 := (((hb1.trans (hb2.mono (by omega))).trans (hb3.mono (by omega))).trans (hb4.mono (by omega))).grown hg5 (by omega) (by intro k e; injection e with e; omega)
  clear hA1 hA4 hb1 hb2 hb3 hb4 hg5
  generalize w3.heap.size = g5 at *
  have hg5 : g5 < w5.heap.size := hA5.lt
  go_upto_region 5 with (first
    | ((with_reducible show wpList _ _ _ (⟨some 18, .load _ _, _, _, _, _⟩ :: _) _ _); go_loud (refine wl_loadG rfl 24 _ rfl g5 0 rfl 24 (bvs xs) (bvs xs) hA5 (fun j v h => by rw [Nat.zero_add]; exact h) (.array 32 5) Try.underlying24 rfl hD.out ?_))
    | ((with_reducible show wpList _ _ _ (⟨some 19, .load _ _, _, _, _, _⟩ :: _) _ _); go_loud (refine wl_loadG rfl 24 _ rfl w.heap.size 0 rfl 24 (bvs xs) (bvs xs) hX5 (fun j v h => by rw [Nat.zero_add]; exact h) (.array 32 5) Try.underlying24 rfl hD.out ?_))
    | ((with_reducible show wpList _ _ _ (⟨some 23, .load _ _, _, _, _, _⟩ :: _) _ _); go_loud (refine wl_loadG rfl 24 _ rfl w.heap.size 0 rfl 24 (bvs xs) (bvs xs) hX5 (fun j v h => by rw [Nat.zero_add]; exact h) (.array 32 5) Try.underlying24 rfl hD.out ?_))
    | (go_at_call 19; refine (K1.out _).mono ?_; rintro e w6 ⟨rfl, hb6⟩)
    | (go_at_call 17; refine (K3.out _).mono ?_; rintro e w7 ⟨rfl, hb7⟩)
    | ((with_reducible show wpList _ _ _ (⟨some 7, .alloc _, _, _, _, _⟩ :: _) _ _); refine wl_alloc rfl 24 rfl (bvs (Z8 32)) 32 infoD ?_; intro w8 hA8 hb8 hs8)
    | ((with_reducible show wpList _ _ _ (⟨none, .store _ _ _, _, _, _, _⟩ :: _) _ _); refine wl_store rfl 24 _ _ rfl w7.heap.size 0 rfl (bvs ys) rfl 24 _ hA8 hDy.out (by rw [hysl.out]; exact (by decide : 0 + 32 ≤ (bvs (Z8 32)).length)) HY.out ?_; intro w9 hA9 hg9 hs9))
  rw [whole_store _ _ (by rw [hysl.out]; rfl)] at hA9
  have x6 := hb6.size
  have x7 := hb7.size
  have x0 := hX5.lt
  have hB9 : Below w.heap.size w w9 := (((hB5.trans (hb6.mono (by omega))).trans (hb7.mono (by omega))).trans (hb8.mono (by omega))).grown hg9 (by omega) (by intro k e; injection e with e; omega)
  clear hA8 hb6 hb7 hb8 hg9 hA5 hX5 hB5
  have x9 := hB9.size
  generalize w7.heap.size = g9 at *
  rcases HE.out with h | h
  · subst h
    have hst : bstr (hexL ys) = s := by
      rw [HB.out rfl]
      simp [bstr]
    have HST := Lib.hid hst
    have K5 : Hid (∀ W, Calls Try.prog 19 #[.agg (bvs ys).toArray] W fun e w' => e = .returned (.string s) ∧ Below W.heap.size W w') := fun W => by
      have h := K4.out W
      rw [HST.out] at h
      exact h
    clear hst hne heq
    go_wp2_with (first
      | ((with_reducible show wpList _ _ _ (⟨some 45, .load _ _, _, _, _, _⟩ :: _) _ _); go_loud (refine wl_load rfl 24 _ rfl g9 0 rfl 24 (bvs ys) (bvs ys) hA9 (fun j v h => by rw [Nat.zero_add]; exact h) (.array 32 5) Try.underlying24 rfl hDy.out ?_))
      | (go_at_call 19; refine (K5.out _).mono ?_; rintro e w10 ⟨rfl, hb10⟩)
      | (go_at_call 11; refine (wakes_any _).mono ?_; rintro e w11 ⟨rfl, hb11⟩))
    go_ret
    exact ⟨rfl, (hB9.trans (hb10.mono x9)).trans (hb11.mono (by have := hb10.size; omega))⟩
  · simp only [Prod.mk.injEq] at h
    obtain ⟨hy, rfl⟩ := h
    subst hy
    clear hne
    go_wp2_with (first
      | ((with_reducible show wpList _ _ _ (⟨some 38, .load _ _, _, _, _, _⟩ :: _) _ _); go_loud (refine wl_loadG rfl 24 _ rfl g9 0 rfl 24 (bvs (Z8 32)) (bvs (Z8 32)) hA9 (fun j v h => by rw [Nat.zero_add]; exact h) (.array 32 5) Try.underlying24 rfl sizeD ?_))
      | ((with_reducible show wpList _ _ _ (⟨some 39, .build _ _, _, _, _, _⟩ :: _) _ _); go_loud (refine wl_buildG rfl 24 _ rfl (bvs (Z8 32)).toArray (by simpa [Act.eval] using built_zero) ?_))
      | (go_at_call 11; refine (wakes_any _).mono ?_; rintro e w11 ⟨rfl, hb11⟩))
    go_ret
    exact ⟨rfl, hB9.trans (hb11.mono x9)⟩

set_option maxRecDepth 100000 in
theorem shaBack_lifted (os : Os) (started : os.Started) (H : Type) (enc : TypeId × Value → H) :
    ReturnsInHanded {} Try.checked os 7 .any (Rows.shaBackSpec.pre6 enc Try.prog Try.f7 Rows.shaBackRow.domain false) (Rows.shaBackSpec.post enc Try.prog Try.f7 false true false false) := by
  refine returnsInHanded_of_change (C := Try.checked) ownKnobs started (by kernel_rfl) Try.func7
    (ChangeSpec.witness6 (enc := enc) (C := Try.checked) false ⟨#[], #[.agg (bvs (Z8 32)).toArray, .string ⟨#[]⟩], []⟩ 8 (by kernel_rfl) (by kernel_rfl) (by kernel_rfl) (by kernel_rfl)) ?_
  intro W base args ds gs before hval hW _ _
  have hW' := hW
  obtain ⟨p, q, hA0, hV, rfl, _, _⟩ := hW
  have hA : DataW.TrodAll enc Try.prog W 0 (fun _ => true) true Try.f7.params.toList args.toList ds p := hA0
  have hval' := hval
  rw [Try.params7] at hA hval'
  obtain ⟨v0, v1, d0, d1, p0, p1, hargs, rfl, rfl, h0, h1⟩ := trodAll_two hA
  obtain rfl : args = #[v0, v1] := by cases args; simp_all
  obtain ⟨rfl, rfl⟩ := trodVars_none hV
  obtain ⟨xs, hx, rfl⟩ := digest_of_trod (hval' 0 24 v0 rfl rfl) h0
  obtain ⟨s, rfl, rfl, rfl, hs⟩ := Go.ChangeMaps.open_string Try.underlying9 (hval' 1 9 v1 rfl rfl) h1
  refine (BackW_any xs s hx W).mono fun e W' ⟨he, hw⟩ => ?_
  subst he
  exact ⟨_, rfl, law_post laidOuts (by kernel_rfl) rfl Try.underlying4 rfl hW' hw rfl⟩

theorem shaBack_proved : Rows.ShaBackSaid :=
  OpenClaim.holds_of_wide 7 Try.f7 rfl rfl rfl rfl rfl rfl rfl ⟨rfl, rfl, rfl, rfl, rfl⟩ rfl rfl rfl rfl rfl (by kernel_rfl) Try.func7 (by kernel_rfl)
    (of_decide_eq_true (by kernel_rfl)) (by unfold Func.isWrapper; first | (rw [if_pos (by decide +kernel)]; kernel_rfl) | (rw [if_neg (by decide +kernel)]; exact ⟨rfl, rfl⟩))
    (fun os started H enc _ => shaBack_lifted os started H enc)
end Go.Proofs.Ytgippimoklefnaa
