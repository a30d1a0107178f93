/-
  Package files: Crash. Conditions: those in each statement.
-/
import Derived.Test.YtcnkgenhbnafjaaFiM
namespace Go.Proofs.Ytcnkgenhbnafjaa
open Go.RowKit

abbrev encU (x : Nat) : List Value := [.int .u16 (x : Int)]
abbrev RdU (w : World) (a : Option Addr) (n cap : Nat) (ps : List Nat) : Prop := RdG 1 encU w a n cap ps
theorem RdU.first {w : World} {b off n cap : Nat} {ps : List Nat} (h : RdU w (some ⟨b, off, none⟩) n cap ps) (h0 : 0 < n) : w.cell? ⟨b, off, none⟩ = some (.int .u16 ((ps.getD 0 0 : Nat) : Int)) := by
  have hl := h.len
  have := h.range 0 (by omega) 0 (.int .u16 ((ps.getD 0 0 : Nat) : Int)) (by simp [encU, List.getD, hl, h0])
  simpa using this
theorem RdU.rest {w : World} {b off n cap : Nat} {ps : List Nat} (h : RdU w (some ⟨b, off, none⟩) n cap ps) (h0 : 0 < n) : RdU w (some ⟨b, off + 1, none⟩) (n - 1) (cap - 1) ps.tail := by
  have := h.drop 1 h0
  rwa [Nat.one_mul, List.drop_one] at this
/-- what a crash may turn, and the disk under way -/
structure CrI (w : World) (B r m : Nat) (fs : List FS) (q u : Nat) (o : Bool) (ns : List ByteArray) (ps : List Nat) (k : Nat) (a : Option Addr) (n c : Nat) (ps' : List Nat) (fs' : List FS) (W : World) : Prop where
  rd : RdU W a n c ps'
  far : ∀ ad, a = some ad → 0 < n → ¬ foot r m fs ad.block
  dsk : IsD W B r m fs' (total fs') q u o
  same : crashG (ns.drop k) ps' fs' = crashG ns ps fs
  names : fs'.map FS.name = fs.map FS.name
  foots : ∀ j, foot r m fs' j → foot r m fs j
  kb : KB (foot r m fs) w W
  short : ∀ f ∈ fs', f.data.length ≤ 140737488355328
  less : total fs' ≤ total fs
theorem crashG_none {s : ByteArray} {ns : List ByteArray} {ps : List Nat} {fs : List FS} {f : FS} (hf : atF fs s = some f) (h0 : lse f = 0) : crashG (s :: ns) ps fs = crashG ns ps fs := by
  rw [crashG, hf]
  simp only
  rw [if_pos h0]
theorem crashG_some {s : ByteArray} {ns : List ByteArray} {ps : List Nat} {fs : List FS} {f : FS} (hf : atF fs s = some f) (h0 : lse f ≠ 0) : crashG (s :: ns) ps fs = crashG ns ps.tail (upd1 fs (cutF f (keptF f ps))) := by
  rw [crashG, hf]
  simp only
  rw [if_neg h0]
theorem namesF_mem {fs : List FS} {s : ByteArray} (h : s ∈ namesF fs) : ∃ f ∈ fs, f.name = s := by
  unfold namesF at h
  rw [sortS_mem] at h
  obtain ⟨f, hf, e⟩ := List.mem_map.1 h
  exact ⟨f, hf, e⟩
theorem foot_upd {r m : Nat} {fs : List FS} {f g : FS} (hf : f ∈ fs) (hb : g.fb = f.fb) (ho : g.dv.ownBlock = f.dv.ownBlock) {j : Nat} (h : foot r m (upd1 fs g) j) : foot r m fs j := by
  rcases h with h | h | ⟨x, hx, h⟩
  · exact .inl h
  · exact .inr (.inl h)
  · rcases upd1_mem hx with rfl | ⟨hx, -⟩
    · rw [hb, ho] at h
      exact .inr (.inr ⟨f, hf, h⟩)
    · exact .inr (.inr ⟨x, hx, h⟩)
set_option maxRecDepth 100000 in
set_option maxHeartbeats 3200000 in
theorem Crash_any (w : World) (B r m : Nat) (fs : List FS) (q u : Nat) (o : Bool) (h : IsD w B r m fs (total fs) q u o) (p : Option Addr) (n c : Nat) (ps : List Nat) (hr : RdU w p n c ps) (hps : ∀ x ∈ ps, x < 65536)
    (hfar : ∀ ad, p = some ad → 0 < n → ¬ foot r m fs ad.block) (hl : fs.length ≤ 1048576) (ht : total fs ≤ 9223372036854775807) (hshort : ∀ f ∈ fs, f.data.length ≤ 140737488355328) (hn : n ≤ 140737488355328) :
    Calls Try.prog 28 #[.pointer (some ⟨r, 0, none⟩), .slice p n c] w fun e w' => e = .returned (.tuple #[]) ∧ IsD w' B r m (crashG (namesF fs) ps fs) (total (crashG (namesF fs) ps fs)) q 0 false ∧ KB (foot r m fs) w w' := by
  have H := is_any w B r m fs (total fs) q u o h
  have HN := Names_any w B r m fs (total fs) q u o h hl
  have hlt : ∀ j, foot r m fs j → j < w.heap.size := fun j hj => (h.lt hj).1
  have HH := Lib.hid h
  have HR := Lib.hid hr
  have HP := Lib.hid hps
  have HF := Lib.hid hfar
  have HL := Lib.hid hlt
  have HSH := Lib.hid hshort
  clear h hr hps hfar hlt hshort
  go_enter Try.func28, Try.ntmps28
  go_wp2_with (first
    | (go_at_call 50; refine H.mono ?_; rintro e w' ⟨rfl, rfl⟩)
    | (go_at_call 33; refine HN.mono ?_; rintro e w1 ⟨v1, rfl, ho1, hb1⟩; obtain ⟨a1, c1, rfl, hrn, hbn⟩ := ho1.rd (by omega)))
  clear H HN
  obtain ⟨ns, hns⟩ : ∃ ns, ns = namesF fs := ⟨_, rfl⟩
  rw [← hns] at ho1 hrn ⊢
  have hnl : ns.length ≤ 1048576 := by rw [hns]; unfold namesF; rw [sortS_len, List.length_map]; exact hl
  have HNS := Lib.hid hns
  have HB1 := Lib.hid hb1
  have HRN := Lib.hid hrn
  have HBN := Lib.hid hbn
  have hstart : CrI w1 B r m fs q u o ns ps 0 p n c ps fs w1 := ⟨HR.out.to hb1, HF.out, HH.out.to hb1, rfl, rfl, fun _ h => h, KB.refl _ _, HSH.out, Nat.le_refl _⟩
  have HST := Lib.hid hstart
  clear hns ho1 hrn hbn hb1 hstart
  go_loopw [1, 15] (fun pv i wr => ∃ (k : Nat) (a' : Option Addr) (n' c' : Nat) (ps' : List Nat) (fs' : List FS), k ≤ ns.length ∧ i = .int .i64 k ∧ pv = .slice a' n' c' ∧ (∀ x ∈ ps', x < 65536) ∧ n' ≤ 140737488355328 ∧ CrI w1 B r m fs q u o ns ps k a' n' c' ps' fs' wr) (fun _ i _ => ns.length - (intOf i).toNat)
  case atStart => exact ⟨0, p, n, c, ps, fs, Nat.zero_le _, rfl, rfl, HP.out, hn, HST.out⟩
  case round =>
    obtain ⟨k, a', n', c', ps', fs', hk, rfl, rfl, hpl, hn', hI⟩ := hrel
    by_cases hlt : k < ns.length
    · obtain ⟨b1, o1, rfl, hb1, -⟩ := HRN.out.mem (by omega)
      have hnW : RdS' wr (some ⟨b1, o1, none⟩) ns.length c1 ns := HRN.out.kb hI.kb (fun ad e _ hz => by cases e; have := (HBN.out _ rfl).1; have := HL.out _ hz; omega)
      have hle1 := HRN.out.le
      have cs := hnW.at k hlt
      obtain ⟨s, hs⟩ : ∃ s, s = ns.getD k ⟨#[]⟩ := ⟨_, rfl⟩
      rw [← hs] at cs
      have hget : ns[k]? = some s := by rw [hs, List.getD, List.getElem?_eq_getElem hlt]; rfl
      have hdrop : ns.drop k = s :: ns.drop (k + 1) := by
        rw [List.drop_eq_getElem_cons hlt]
        rw [List.getElem?_eq_getElem hlt] at hget
        rw [Option.some.inj hget]
      have hmem : s ∈ fs'.map FS.name := by
        rw [hI.names]
        obtain ⟨f, hf, e⟩ := namesF_mem (fs := fs) (s := s) (by rw [← HNS.out]; exact List.mem_of_getElem? hget)
        exact List.mem_map.2 ⟨f, hf, e⟩
      obtain ⟨f, hf, hfn⟩ := List.mem_map.1 hmem
      have hat : atF fs' s = some f := by rw [← hfn]; exact atF_some hI.dsk.names hf
      have hF := hI.dsk.file f hf
      obtain ⟨da, dc, hdv⟩ := own_slice hF.row
      have hA := hF.arr
      rw [hdv] at hA
      have hLo := fun W (hW : Arr W f.fb 71 [.slice da f.data.length dc, .int .i64 (f.lasts : Int)]) => loose_any W f.fb da f.data.length dc f.lasts hW hF.le (hI.short f hf)
      have c0 := hI.dsk.cells.1
      have hlk := look0 hI.dsk.map hI.dsk.names s
      rw [hat] at hlk
      have hlk2 : (Instr.lookup 61 (.map (some m)) (.string s) false).run Try.prog wr = .ok (.pointer (some ⟨f.fb, 0, none⟩)) wr := hlk
      have HI := Lib.hid hI
      have HAT := Lib.hid hat
      have HDR := Lib.hid hdrop
      have HFF := Lib.hid hF
      have HDV := Lib.hid hdv
      have HA := Lib.hid hA
      have HPL := Lib.hid hpl
      have HMF := Lib.hid hf
      have hLo2 := hLo wr hA
      have hlu : f.data.length - f.lasts = lse f := rfl
      rw [hlu] at hLo2
      obtain ⟨u0, hu0⟩ : ∃ u0, u0 = lse f := ⟨_, rfl⟩
      rw [← hu0] at hLo2
      have HU := Lib.hid hu0
      have hub : u0 ≤ 140737488355328 := by have := hI.short f hf; rw [hu0]; unfold lse; omega
      clear hI hat hdrop hF hdv hA hpl hLo hlk hmem hget hs hf hfn hnW hlu hu0
      by_cases hu : u0 = 0
      · subst hu
        go_wp2_with (go_at_call 49; go_loud (refine hLo2.mono ?_); rintro e w2 ⟨rfl, rfl⟩)
        go_roundw
        case rel =>
          refine ⟨k + 1, a', n', c', ps', fs', by omega, by go_num, rfl, HPL.out, hn', ?_⟩
          have hD : IsD wr.drew B r m fs' (total fs') q u o := HI.out.dsk.kept fun _ _ => rfl
          exact ⟨HI.out.rd.to (Below.refl _ _).drew, HI.out.far, hD, by rw [← HI.out.same, HDR.out, crashG_none HAT.out HU.out.symm], HI.out.names, HI.out.foots, HI.out.kb.drew, HI.out.short, HI.out.less⟩
        case measure => simp [intOf]; omega
      · have hu2 : ((u0 : Int) == 0) = false := by simp; omega
        go_upto_region 8 with (go_at_call 49; go_loud (refine hLo2.mono ?_); rintro e w2 ⟨rfl, rfl⟩)
        by_cases hn0 : n' = 0
        · subst hn0
          have hps0 : ps' = [] := List.eq_nil_of_length_eq_zero HI.out.rd.len
          obtain ⟨kp, hkz⟩ : ∃ kp : Nat, kp = 0 := ⟨_, rfl⟩
          have HKP : Hid (kp = keptF f ps') := by show kp = _; rw [hkz, hps0]; rfl
          have hkp : kp ≤ u0 := by omega
          have HRD : Hid (RdU wr a' 0 c' ps'.tail) := by
            have h := HI.out.rd
            rw [hps0] at h ⊢
            exact h
          have HFR : Hid (∀ ad, a' = some ad → 0 < 0 → ¬ foot r m fs ad.block) := fun ad e h => absurd h (by omega)
          have HTL : Hid (∀ x ∈ ps'.tail, x < 65536) := fun x hx => HPL.out x (List.mem_of_mem_tail hx)
          have HKZ := Lib.hid hkz
          clear hkz hps0
          go_upto_region 11 with fail
          rw [show Value.int .i64 (0 : Int) = Value.int .i64 ((kp : Nat) : Int) by rw [HKZ.out]; rfl]
          have HKL : Hid (kp ≤ u0) := hkp
          have hlle := HFF.out.le
          have hdl : f.data.length ≤ 140737488355328 := HI.out.short f HMF.out
          have hul : f.lasts + u0 = f.data.length := by have := HU.out; unfold lse at this; omega
          have hdc : f.data.length ≤ dc := by
            have h := HFF.out.row
            rw [HDV.out] at h
            exact h.rd.le
          have hsol : ∃ g, da = some ⟨g, 0, none⟩ := by
            obtain ⟨g, cap, e, -⟩ := HFF.out.row.solid (by omega)
            rw [HDV.out] at e
            injection e with e
            exact ⟨g, e⟩
          obtain ⟨gd, rfl⟩ := hsol
          have hA1 : Arr wr.drew f.fb 71 [.slice (some ⟨gd, 0, none⟩) f.data.length dc, .int .i64 (f.lasts : Int)] := HA.out
          have k1 := hA1.cell 1
          simp only [List.getElem?_cons_succ, List.getElem?_cons_zero] at k1
          obtain ⟨x, hx⟩ : ∃ x, x = f.lasts + kp := ⟨_, rfl⟩
          have hxI : (f.lasts : Int) + (kp : Int) = (x : Int) := by omega
          have hxl : x ≤ f.data.length := by omega
          have hxc : (x : Int) ≤ (dc : Int) := by omega
          have HX := Lib.hid hx
          clear hx
          go_upto_region 12 with ((with_reducible show wpList _ _ _ (⟨none, .store _ _ _, _, _, _, _⟩ :: _) _ _); go_loud (refine wl_store1 rfl 3 _ _ rfl f.fb 1 rfl (.int .i64 (x : Int)) rfl rfl rfl 71 _ hA1 infoD1 (by simp) ?_); intro w2 hA2 hg2 hs2)
          simp only [List.set_cons_succ, List.set_cons_zero] at hA2
          have j0 := hA2.cell 0
          have j1 := hA2.cell 1
          have f0 := hA2.frozen 0
          simp only [List.getElem?_cons_succ, List.getElem?_cons_zero] at j0 j1
          have HA2 := Lib.hid hA2
          have HG2 := Lib.hid hg2
          clear hA1 k1 hA2 hg2 hs2
          go_region
          all_goals (
            have hA3 := (HA2.out.store 0 (.slice (some ⟨gd, 0, none⟩) x dc)).drew
            simp only [List.set_cons_zero] at hA3
            have hg23 : w2.grownBy (w2.setCell ⟨f.fb, 0, none⟩ (.slice (some ⟨gd, 0, none⟩) x dc)).drew (some f.fb) := by
              have h := grown_set w2 f.fb 0 (.slice (some ⟨gd, 0, none⟩) x dc)
              exact ⟨h.os, h.tape, h.output, h.size, h.block⟩
            obtain ⟨w3, hw3⟩ : ∃ w3, w3 = (w2.setCell ⟨f.fb, 0, none⟩ (.slice (some ⟨gd, 0, none⟩) x dc)).drew := ⟨_, rfl⟩
            rw [← hw3] at hA3 hg23 ⊢
            obtain ⟨q1, q2⟩ := HI.out.dsk.apart
            obtain ⟨q3, q4, q5⟩ := q2 f HMF.out
            have hAr : Arr w3 r 63 [.map (some m), .int .i64 (total fs' : Int), .int .i64 (q : Int), .int .i64 (u : Int), .bool o] :=
              ((show Arr wr.drew r _ _ from HI.out.dsk.arr).grown HG2.out (by intro e; injection e with e; exact q3 e.symm)).grown hg23 (by intro e; injection e with e; exact q3 e.symm)
            have y1 := hAr.cell 1
            simp only [List.getElem?_cons_succ, List.getElem?_cons_zero] at y1
            have htl : f.data.length ≤ total fs' := by
              have := upd1_total (g := { f with data := [] }) HI.out.dsk.names HMF.out rfl
              simp at this
              omega
            have htot : total fs' ≤ 9223372036854775807 := Nat.le_trans HI.out.less ht
            obtain ⟨y, hy⟩ : ∃ y, y = total fs' - (u0 - kp) := ⟨_, rfl⟩
            have hyI : (total fs' : Int) - ((u0 : Int) - (kp : Int)) = (y : Int) := by omega
            have HY := Lib.hid hy
            have HA3 := Lib.hid hA3
            have HG23 := Lib.hid hg23
            clear hy hw3 hA3 hg23 j0 j1 f0
            go_wp2_with ((with_reducible show wpList _ _ _ (⟨none, .store _ _ _, _, _, _, _⟩ :: _) _ _); go_loud (refine wl_store1 rfl 3 _ _ rfl r 1 rfl (.int .i64 (y : Int)) rfl rfl rfl 63 _ hAr infoD1 (by simp) ?_); intro w4 hA4 hg4 hs4)
            simp only [List.set_cons_succ, List.set_cons_zero] at hA4
            go_roundw
            case rel =>
              have hkb : KB (fun k => k = r ∨ k = f.fb ∨ f.dv.ownBlock = some k) wr w4 := ((((KB.refl _ wr).drew).grown HG2.out (.inr (.inl rfl))).grown HG23.out (.inr (.inl rfl))).grown hg4 (.inl rfl)
              obtain ⟨ho1, ho2⟩ := cutF_own HFF.out kp (by rw [← HU.out]; exact HKL.out)
              have hk4 : ∀ k, f.dv.ownBlock = some k → w4.heap[k]? = wr.heap[k]? := fun k hk => by
                obtain ⟨e1, e2, e3⟩ := q5 k hk
                have hlt := (own_lt HFF.out.row hk).2
                have hs2 := HG2.out.size
                have hs3 := HG23.out.size
                have hs1 : wr.drew.heap.size = wr.heap.size := rfl
                rw [hg4.block k (by omega) (by intro e; injection e with e; exact e1 e), HG23.out.block k (by omega) (by intro e; injection e with e; exact e3 f HMF.out e), HG2.out.block k hlt (by intro e; injection e with e; exact e3 f HMF.out e)]
                rfl
              have hG : IsF w4 B (cutF f kp) := by
                refine ⟨?_, ho1.by' (fun k hk => hk4 k (by rw [← ho2]; exact hk)), ?_, HFF.out.base⟩
                · show Arr w4 f.fb _ [cutV f.dv (f.lasts + kp), .int .i64 ((f.lasts + kp : Nat) : Int)]
                  rw [HDV.out, ← HX.out]
                  exact HA3.out.grown hg4 (by intro e; injection e with e; exact q3 e)
                · show f.lasts + kp ≤ (f.data.take (f.lasts + kp)).length
                  rw [List.length_take]
                  have := HX.out
                  omega
              have htt : total (upd1 fs' (cutF f kp)) = y := by
                have h1 := upd1_total (g := cutF f kp) HI.out.dsk.names HMF.out rfl
                have h2 : (cutF f kp).data.length = f.lasts + kp := by
                  show (f.data.take (f.lasts + kp)).length = _
                  rw [List.length_take]
                  have := HX.out
                  omega
                have h3 := HY.out
                omega
              have hD := HI.out.dsk.upd (g := cutF f kp) HMF.out rfl rfl hkb hA4 hG (fun k hk => .inl (by rw [← ho2]; exact hk))
              rw [← htt] at hD
              refine ⟨k + 1, _, _, _, ps'.tail, upd1 fs' (cutF f kp), by omega, by go_num, rfl, HTL.out, by omega, ?_⟩
              have hfoot : ∀ k, (k = r ∨ k = f.fb ∨ f.dv.ownBlock = some k) → foot r m fs k := fun k e => HI.out.foots k (by
                rcases e with e | e
                · exact .inl e
                · exact .inr (.inr ⟨f, HMF.out, e⟩))
              refine ⟨HRD.out.kb hkb (fun ad e h hz => HFR.out ad e h (hfoot _ hz)), HFR.out, hD, ?_, by rw [upd1_names]; exact HI.out.names, fun j hj => HI.out.foots j (foot_upd (g := cutF f kp) HMF.out rfl ho2 hj), HI.out.kb.trans (hkb.mono hfoot), fun x hx => ?_, ?_⟩
              · rw [← HI.out.same, HDR.out, crashG_some HAT.out (by rw [← HU.out]; exact hu), HKP.out]
              · rcases upd1_mem hx with rfl | ⟨hx, -⟩
                · show (f.data.take (f.lasts + kp)).length ≤ _
                  rw [List.length_take]
                  omega
                · exact HI.out.short x hx
              · rw [htt, HY.out]
                have := HI.out.less
                omega
            case measure => simp [intOf]; omega)
        · obtain ⟨b2, o2, rfl, hb2, -⟩ := HI.out.rd.mem (by omega)
          have cp : wr.drew.cell? ⟨b2, o2, none⟩ = some (.int .u16 ((ps'.getD 0 0 : Nat) : Int)) := HI.out.rd.first (by omega)
          obtain ⟨p0, hp0⟩ : ∃ p0, p0 = ps'.getD 0 0 := ⟨_, rfl⟩
          rw [← hp0] at cp
          have hp16 : p0 < 65536 := by
            have hl := HI.out.rd.len
            rw [hp0, List.getD, List.getElem?_eq_getElem (by omega)]
            exact HPL.out _ (List.getElem_mem _)
          have hle2 := HI.out.rd.le
          have hpos : (0 : Int) < (n' : Int) := by omega
          have hone : (1 : Int) ≤ (n' : Int) := by omega
          obtain ⟨kp, hkz⟩ : ∃ kp : Nat, kp = p0 % (u0 + 1) := ⟨_, rfl⟩
          have HKM : Hid ((p0 : Int) % ((u0 : Int) + 1) = (kp : Int)) := by show _ = _; rw [hkz]; push_cast; rfl
          have hkp : kp ≤ u0 := by have := Nat.mod_lt p0 (show 0 < u0 + 1 by omega); omega
          have HKP : Hid (kp = keptF f ps') := by
            show kp = _
            have hl := HI.out.rd.len
            rw [hkz, HU.out]
            cases hps : ps' with
            | nil => rw [hps] at hl; simp at hl; omega
            | cons y ys => rw [hp0, hps]; rfl
          have HTL : Hid (∀ x ∈ ps'.tail, x < 65536) := fun x hx => HPL.out x (List.mem_of_mem_tail hx)
          obtain ⟨a2, ha2⟩ : ∃ a2, a2 = (if c' = 1 then some (⟨b2, o2, none⟩ : Addr) else some ⟨b2, o2 + 1, none⟩) := ⟨_, rfl⟩
          have HRD : Hid (RdU wr a2 (n' - 1) (c' - 1) ps'.tail) := by
            show RdU _ _ _ _ _
            rw [ha2]
            have h := HI.out.rd.rest (by omega)
            by_cases hc : c' = 1
            · rw [if_pos hc]
              have hn1 : n' - 1 = 0 := by omega
              rw [hn1, hc] at h ⊢
              exact ⟨h.len, h.le, h.all, (by intro e; cases e), fun h => absurd h (by omega)⟩
            · rw [if_neg hc]
              exact h
          have HFR : Hid (∀ ad, a2 = some ad → 0 < n' - 1 → ¬ foot r m fs ad.block) := fun ad e h => by
            rw [ha2] at e
            have := HI.out.far ⟨b2, o2, none⟩ rfl (by omega)
            split at e <;> (cases e; exact this)
          have HA2E := Lib.hid ha2
          clear hp0 hkz ha2
          go_upto_region 11 with fail
          rw [HKM.out, ← HA2E.out]
          have HKL : Hid (kp ≤ u0) := hkp
          have hlle := HFF.out.le
          have hdl : f.data.length ≤ 140737488355328 := HI.out.short f HMF.out
          have hul : f.lasts + u0 = f.data.length := by have := HU.out; unfold lse at this; omega
          have hdc : f.data.length ≤ dc := by
            have h := HFF.out.row
            rw [HDV.out] at h
            exact h.rd.le
          have hsol : ∃ g, da = some ⟨g, 0, none⟩ := by
            obtain ⟨g, cap, e, -⟩ := HFF.out.row.solid (by omega)
            rw [HDV.out] at e
            injection e with e
            exact ⟨g, e⟩
          obtain ⟨gd, rfl⟩ := hsol
          have hA1 : Arr wr.drew f.fb 71 [.slice (some ⟨gd, 0, none⟩) f.data.length dc, .int .i64 (f.lasts : Int)] := HA.out
          have k1 := hA1.cell 1
          simp only [List.getElem?_cons_succ, List.getElem?_cons_zero] at k1
          obtain ⟨x, hx⟩ : ∃ x, x = f.lasts + kp := ⟨_, rfl⟩
          have hxI : (f.lasts : Int) + (kp : Int) = (x : Int) := by omega
          have hxl : x ≤ f.data.length := by omega
          have hxc : (x : Int) ≤ (dc : Int) := by omega
          have HX := Lib.hid hx
          clear hx
          go_upto_region 12 with ((with_reducible show wpList _ _ _ (⟨none, .store _ _ _, _, _, _, _⟩ :: _) _ _); go_loud (refine wl_store1 rfl 3 _ _ rfl f.fb 1 rfl (.int .i64 (x : Int)) rfl rfl rfl 71 _ hA1 infoD1 (by simp) ?_); intro w2 hA2 hg2 hs2)
          simp only [List.set_cons_succ, List.set_cons_zero] at hA2
          have j0 := hA2.cell 0
          have j1 := hA2.cell 1
          have f0 := hA2.frozen 0
          simp only [List.getElem?_cons_succ, List.getElem?_cons_zero] at j0 j1
          have HA2 := Lib.hid hA2
          have HG2 := Lib.hid hg2
          clear hA1 k1 hA2 hg2 hs2
          go_region
          all_goals (
            have hA3 := (HA2.out.store 0 (.slice (some ⟨gd, 0, none⟩) x dc)).drew
            simp only [List.set_cons_zero] at hA3
            have hg23 : w2.grownBy (w2.setCell ⟨f.fb, 0, none⟩ (.slice (some ⟨gd, 0, none⟩) x dc)).drew (some f.fb) := by
              have h := grown_set w2 f.fb 0 (.slice (some ⟨gd, 0, none⟩) x dc)
              exact ⟨h.os, h.tape, h.output, h.size, h.block⟩
            obtain ⟨w3, hw3⟩ : ∃ w3, w3 = (w2.setCell ⟨f.fb, 0, none⟩ (.slice (some ⟨gd, 0, none⟩) x dc)).drew := ⟨_, rfl⟩
            rw [← hw3] at hA3 hg23 ⊢
            obtain ⟨q1, q2⟩ := HI.out.dsk.apart
            obtain ⟨q3, q4, q5⟩ := q2 f HMF.out
            have hAr : Arr w3 r 63 [.map (some m), .int .i64 (total fs' : Int), .int .i64 (q : Int), .int .i64 (u : Int), .bool o] :=
              ((show Arr wr.drew r _ _ from HI.out.dsk.arr).grown HG2.out (by intro e; injection e with e; exact q3 e.symm)).grown hg23 (by intro e; injection e with e; exact q3 e.symm)
            have y1 := hAr.cell 1
            simp only [List.getElem?_cons_succ, List.getElem?_cons_zero] at y1
            have htl : f.data.length ≤ total fs' := by
              have := upd1_total (g := { f with data := [] }) HI.out.dsk.names HMF.out rfl
              simp at this
              omega
            have htot : total fs' ≤ 9223372036854775807 := Nat.le_trans HI.out.less ht
            obtain ⟨y, hy⟩ : ∃ y, y = total fs' - (u0 - kp) := ⟨_, rfl⟩
            have hyI : (total fs' : Int) - ((u0 : Int) - (kp : Int)) = (y : Int) := by omega
            have HY := Lib.hid hy
            have HA3 := Lib.hid hA3
            have HG23 := Lib.hid hg23
            clear hy hw3 hA3 hg23 j0 j1 f0
            go_wp2_with ((with_reducible show wpList _ _ _ (⟨none, .store _ _ _, _, _, _, _⟩ :: _) _ _); go_loud (refine wl_store1 rfl 3 _ _ rfl r 1 rfl (.int .i64 (y : Int)) rfl rfl rfl 63 _ hAr infoD1 (by simp) ?_); intro w4 hA4 hg4 hs4)
            simp only [List.set_cons_succ, List.set_cons_zero] at hA4
            go_roundw
            case rel =>
              have hkb : KB (fun k => k = r ∨ k = f.fb ∨ f.dv.ownBlock = some k) wr w4 := ((((KB.refl _ wr).drew).grown HG2.out (.inr (.inl rfl))).grown HG23.out (.inr (.inl rfl))).grown hg4 (.inl rfl)
              obtain ⟨ho1, ho2⟩ := cutF_own HFF.out kp (by rw [← HU.out]; exact HKL.out)
              have hk4 : ∀ k, f.dv.ownBlock = some k → w4.heap[k]? = wr.heap[k]? := fun k hk => by
                obtain ⟨e1, e2, e3⟩ := q5 k hk
                have hlt := (own_lt HFF.out.row hk).2
                have hs2 := HG2.out.size
                have hs3 := HG23.out.size
                have hs1 : wr.drew.heap.size = wr.heap.size := rfl
                rw [hg4.block k (by omega) (by intro e; injection e with e; exact e1 e), HG23.out.block k (by omega) (by intro e; injection e with e; exact e3 f HMF.out e), HG2.out.block k hlt (by intro e; injection e with e; exact e3 f HMF.out e)]
                rfl
              have hG : IsF w4 B (cutF f kp) := by
                refine ⟨?_, ho1.by' (fun k hk => hk4 k (by rw [← ho2]; exact hk)), ?_, HFF.out.base⟩
                · show Arr w4 f.fb _ [cutV f.dv (f.lasts + kp), .int .i64 ((f.lasts + kp : Nat) : Int)]
                  rw [HDV.out, ← HX.out]
                  exact HA3.out.grown hg4 (by intro e; injection e with e; exact q3 e)
                · show f.lasts + kp ≤ (f.data.take (f.lasts + kp)).length
                  rw [List.length_take]
                  have := HX.out
                  omega
              have htt : total (upd1 fs' (cutF f kp)) = y := by
                have h1 := upd1_total (g := cutF f kp) HI.out.dsk.names HMF.out rfl
                have h2 : (cutF f kp).data.length = f.lasts + kp := by
                  show (f.data.take (f.lasts + kp)).length = _
                  rw [List.length_take]
                  have := HX.out
                  omega
                have h3 := HY.out
                omega
              have hD := HI.out.dsk.upd (g := cutF f kp) HMF.out rfl rfl hkb hA4 hG (fun k hk => .inl (by rw [← ho2]; exact hk))
              rw [← htt] at hD
              refine ⟨k + 1, _, _, _, ps'.tail, upd1 fs' (cutF f kp), by omega, by go_num, rfl, HTL.out, by omega, ?_⟩
              have hfoot : ∀ k, (k = r ∨ k = f.fb ∨ f.dv.ownBlock = some k) → foot r m fs k := fun k e => HI.out.foots k (by
                rcases e with e | e
                · exact .inl e
                · exact .inr (.inr ⟨f, HMF.out, e⟩))
              refine ⟨HRD.out.kb hkb (fun ad e h hz => HFR.out ad e h (hfoot _ hz)), HFR.out, hD, ?_, by rw [upd1_names]; exact HI.out.names, fun j hj => HI.out.foots j (foot_upd (g := cutF f kp) HMF.out rfl ho2 hj), HI.out.kb.trans (hkb.mono hfoot), fun x hx => ?_, ?_⟩
              · rw [← HI.out.same, HDR.out, crashG_some HAT.out (by rw [← HU.out]; exact hu), HKP.out]
              · rcases upd1_mem hx with rfl | ⟨hx, -⟩
                · show (f.data.take (f.lasts + kp)).length ≤ _
                  rw [List.length_take]
                  omega
                · exact HI.out.short x hx
              · rw [htt, HY.out]
                have := HI.out.less
                omega
            case measure => simp [intOf]; omega)
    · have hkk : k = ns.length := by omega
      subst hkk
      have HI := Lib.hid hI
      have hAr := hI.dsk.arr
      clear hI
      go_wp2_with (first
        | ((with_reducible show wpList _ _ _ (⟨none, .store _ _ (.const (.bool false)), _, _, _, _⟩ :: _) _ _); go_loud (refine wl_store1 rfl 4 _ _ rfl r 4 rfl (.bool false) rfl rfl rfl 63 _ hAr infoB1 (by simp) ?_); intro w2 hA2 hg2 hs2; simp only [List.set_cons_succ, List.set_cons_zero] at hA2)
        | ((with_reducible show wpList _ _ _ (⟨none, .store _ _ _, _, _, _, _⟩ :: _) _ _); go_loud (refine wl_store1 rfl 3 _ _ rfl r 3 rfl (.int .i64 0) rfl rfl rfl 63 _ hA2 infoD1 (by simp) ?_); intro w3 hA3 hg3 hs3; simp only [List.set_cons_succ, List.set_cons_zero] at hA3))
      have hk : KB (fun k => k = r) wr w3 := ((KB.refl (fun k => k = r) wr).grown hg2 rfl).grown hg3 rfl
      have hsame : crashG ns ps fs = fs' := by rw [← HI.out.same, List.drop_length, crashG]
      rw [← HNS.out, hsame]
      refine bodyPost_end (results_none rfl _ _ _) rfl ⟨rfl, HI.out.dsk.turn1 hk hA3, ((KB.low0 HB1.out).trans HI.out.kb).trans (hk.mono fun j e => .inl e)⟩
end Go.Proofs.Ytcnkgenhbnafjaa
