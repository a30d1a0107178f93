/-
  Package files: put. Conditions: those in each statement.
-/
import Derived.Test.YtcnkgenhbnafjaaFiD
import Derived.Test.YtcnkgenhbnafjaaRegF
import Derived.Test.YtcnkgenhbnafjaaShelf
namespace Go.Proofs.Ytcnkgenhbnafjaa
open Go.RowKit Go.ChangeMaps

set_option maxRecDepth 100000 in
theorem Clone_any (s : ByteArray) (w : World) (hs : s.size ≤ 140737488355328) : Calls Try.prog 55 #[.string s] w fun e w' => e = .returned (.string s) ∧ Below w.heap.size w w' := by
  have H := Try.stringslite_Clone s w (by omega)
  go_enter Try.func55, Try.ntmps55
  go_wp2_with (go_at_call 60; refine H.mono ?_; rintro e w1 ⟨rfl, hb1⟩)
  go_ret
  exact ⟨rfl, hb1⟩
theorem put_run {w : World} {m : Nat} {fs : List FS} (hm : MapR GStr w m (fs.map ent)) (g : FS) (hn : ∀ f ∈ fs, f.name ≠ g.name) :
    ∃ w', (Instr.mapUpdate 61 (.map (some m)) (.string g.name) (.pointer (some ⟨g.fb, 0, none⟩))).run Try.prog w = .ok () w' ∧ MapR GStr w' m ((fs ++ [g]).map ent) ∧ w.grownBy w' (some m) ∧ w'.heap.size = w.heap.size := by
  obtain ⟨w', h1, h2, h3, h4⟩ := put_new (T := 61) str_ok Try.underlying61 hm (a := .string g.name) (v := .pointer (some ⟨g.fb, 0, none⟩)) ⟨_, rfl⟩ (by
    intro p hp
    obtain ⟨f, hf, rfl⟩ := List.mem_map.1 hp
    intro e
    simp only [ent] at e
    injection e with e
    exact hn f hf e)
  exact ⟨w', h1, by rw [List.map_append]; exact h2, h3, h4⟩
theorem del_no {fs : List FS} {s : ByteArray} : ∀ f ∈ del fs s, f.name ≠ s := fun _ hf => (del_mem.1 hf).2
/-- a file more -/
theorem IsD.more {w w' : World} {B r m : Nat} {fs : List FS} {t q u : Nat} {o : Bool} (h : IsD w B r m fs t q u o) (g : FS) (hb : KB (fun k => k = m) w w') (hm : MapR GStr w' m ((fs ++ [g]).map ent))
    (hn : ∀ f ∈ fs, f.name ≠ g.name) (hg : IsF w B g) (hf : ∀ f ∈ fs, f.fb ≠ g.fb) (hrow : ∀ f ∈ fs, ∀ k, f.dv.ownBlock = some k → g.dv.ownBlock ≠ some k) (hgm : g.fb ≠ m ∧ ∀ k, g.dv.ownBlock = some k → k ≠ m) : IsD w' B r m (fs ++ [g]) t q u o := by
  obtain ⟨h1, h2⟩ := h.apart
  refine ⟨by unfold Arr; rw [hb.block r h.arr.lt (fun e => h1 e.symm)]; exact h.arr, hm, ?_, ?_, fun f hf => ?_, ?_, h.base⟩
  · rw [List.map_append, List.nodup_append]
    refine ⟨h.names, by simp, fun x hx y hy e => ?_⟩
    obtain ⟨f, hf, rfl⟩ := List.mem_map.1 hx
    rw [List.map_singleton, List.mem_singleton] at hy
    exact hn f hf (e.trans hy)
  · rw [List.map_append, List.nodup_append]
    refine ⟨h.blocks, by simp, fun x hx y hy e => ?_⟩
    obtain ⟨f, hf', rfl⟩ := List.mem_map.1 hx
    rw [List.map_singleton, List.mem_singleton] at hy
    exact hf f hf' (e.trans hy)
  · rcases List.mem_append.1 hf with hf | hf
    · obtain ⟨a1, a2, a3⟩ := h2 f hf
      exact (h.file f hf).kept (hb.block _ (h.file f hf).arr.lt a2) fun k hk => hb.block k (own_lt (h.file f hf).row hk).2 (a3 k hk).2.1
    · rw [List.mem_singleton.1 hf]
      exact hg.kept (hb.block _ hg.arr.lt hgm.1) fun k hk => hb.block k (own_lt hg.row hk).2 (hgm.2 k hk)
  · rw [List.pairwise_append]
    exact ⟨h.rows, List.pairwise_singleton _ _, fun f hf g' hg' => by rw [List.mem_singleton.1 hg']; exact hrow f hf⟩
/-- what put leaves -/
def PutRes (w : World) (B r m : Nat) (fs : List FS) (t q u : Nat) (o : Bool) (g : FS) (e : Ending) (w' : World) : Prop :=
  e = .returned (.tuple #[]) ∧ IsD w' B r m (del fs g.name ++ [g]) (t - ((atF fs g.name).elim 0 fun f => f.data.length)) q u o ∧ KB (fun k => k = r ∨ k = m) w w'
structure InvPut (g : FS) (fs : List FS) (B r m : Nat) (W0 : World) (L : Nat → Bool) (v9 v10 v11 v12 v13 v14 v15 : Value) (wx : World) : Prop where
  t0 : L 0 = true → v9 = .pointer (some ⟨r, 0, none⟩)
  t1 : L 1 = true → v10 = .pointer (some ⟨r, 0, none⟩)
  t2 : L 2 = true → v11 = .pointer (some ⟨r, 0, none⟩)
  t3 : L 3 = true → v12 = .map (some m)
  t4 : L 4 = true → v13 = .string g.name
  t5 : L 5 = true → v14 = .string g.name
  t6 : L 6 = true → v15 = .pointer (some ⟨g.fb, 0, none⟩)
  kb : KB (fun k => k = m) W0 wx
  mp : L 7 = true → MapR GStr wx m ((del fs g.name ++ [g]).map ent)
  mq : L 7 = false → MapR GStr wx m ((del fs g.name).map ent)
  hr : True
set_option maxRecDepth 100000 in
set_option maxHeartbeats 1600000 in
theorem put_any (w : World) (B r m : Nat) (fs : List FS) (t q u : Nat) (o : Bool) (h : IsD w B r m fs t q u o) (g : FS) (hs : g.name.size ≤ 140737488355328) (ht : total fs ≤ t) (ht2 : t ≤ 9223372036854775807)
    (hg : IsF w B g) (hf : ∀ f ∈ fs, f.name ≠ g.name → f.fb ≠ g.fb) (hrow : ∀ f ∈ fs, f.name ≠ g.name → ∀ k, f.dv.ownBlock = some k → g.dv.ownBlock ≠ some k) (hgm : g.fb ≠ r ∧ g.fb ≠ m ∧ ∀ k, g.dv.ownBlock = some k → k ≠ r ∧ k ≠ m) :
    Calls Try.prog 37 #[.pointer (some ⟨r, 0, none⟩), .string g.name, .pointer (some ⟨g.fb, 0, none⟩)] w (PutRes w B r m fs t q u o g) := by
  have H := drop_any w B r m fs t q u o h g.name ht ht2
  unfold PutRes
  unfold DropRes at H
  generalize t - ((atF fs g.name).elim 0 fun f => f.data.length) = t' at H ⊢
  have hmr := h.apart.1
  have HM := Lib.hid hmr
  clear h
  go_enter Try.func37, Try.ntmps37
  go_upto_region 1 with (go_at_call 47; refine H.mono ?_; rintro e w1 ⟨rfl, hD1, hk1⟩)
  clear H
  have HC := Lib.hid (fun w => Clone_any g.name w hs)
  have hg1 : IsF w1 B g := hg.kept (hk1.block _ hg.arr.lt (fun e => e.elim hgm.1 hgm.2.1)) fun k hk => hk1.block k (own_lt hg.row hk).2 (fun e => e.elim (hgm.2.2 k hk).1 (hgm.2.2 k hk).2)
  have HG := Lib.hid hg1
  have HD := Lib.hid hD1
  have HK := Lib.hid hk1
  have HF := Lib.hid hf
  have HR := Lib.hid hrow
  have HGM := Lib.hid hgm
  have c0 := hD1.cells.1
  clear hg hf hrow hgm hk1 hg1 hmr
  refine wp_region_steps [[], [0], [1], [2], [], [4], [], [3, 5, 6]] (by kernel_rfl) (by kernel_rfl) (fun L a wx => ∃ v9 v10 v11 v12 v13 v14 v15, a = ⟨#[.pointer (some ⟨r, 0, none⟩), .string g.name, .pointer (some ⟨g.fb, 0, none⟩), undef, undef, undef, .pointer (some ⟨r, 0, none⟩), .string g.name, .tuple #[], v9, v10, v11, v12, v13, v14, v15], []⟩ ∧ InvPut g fs B r m w1 L v9 v10 v11 v12 v13 v14 v15 wx) ?_ ⟨?_, ?_, ?_, ?_, ?_, ?_, ?_, ?_, trivial⟩ ?_
  · refine ⟨_, _, _, _, _, _, _, rfl, ⟨?_, ?_, ?_, ?_, ?_, ?_, ?_, (KB.refl _ _).drew, fun h => absurd h (by decide), fun _ => mapS hD1.map rfl, trivial⟩⟩ <;> (intro h; exact absurd h (by decide))
  · rintro L a wx ⟨v9, v10, v11, v12, v13, v14, v15, rfl, hI⟩ hL hdep hcl K hK
    go_simp
    exact hK _ _ ⟨_, v10, v11, v12, v13, v14, v15, rfl, ⟨fun _ => rfl, hI.t1, hI.t2, hI.t3, hI.t4, hI.t5, hI.t6, hI.kb, hI.mp, hI.mq, hI.hr⟩⟩
  · rintro L a wx ⟨v9, v10, v11, v12, v13, v14, v15, rfl, hI⟩ hL hdep hcl K hK
    obtain rfl := hI.t0 (hdep 0 (by decide))
    go_simp
    exact hK _ _ ⟨_, _, v11, v12, v13, v14, v15, rfl, ⟨hI.t0, fun _ => rfl, hI.t2, hI.t3, hI.t4, hI.t5, hI.t6, hI.kb, hI.mp, hI.mq, hI.hr⟩⟩
  · rintro L a wx ⟨v9, v10, v11, v12, v13, v14, v15, rfl, hI⟩ hL hdep hcl K hK
    obtain rfl := hI.t1 (hdep 1 (by decide))
    go_simp
    exact hK _ _ ⟨v9, _, _, v12, v13, v14, v15, rfl, ⟨hI.t0, hI.t1, fun _ => rfl, hI.t3, hI.t4, hI.t5, hI.t6, hI.kb, hI.mp, hI.mq, hI.hr⟩⟩
  · rintro L a wx ⟨v9, v10, v11, v12, v13, v14, v15, rfl, hI⟩ hL hdep hcl K hK
    obtain rfl := hI.t2 (hdep 2 (by decide))
    have c := (hI.kb.cell (p := ⟨r, 0, none⟩) HD.out.arr.lt (fun e => HM.out e.symm)).trans HD.out.cells.1
    go_simp
    exact hK _ _ ⟨v9, v10, _, _, v13, v14, v15, rfl, ⟨hI.t0, hI.t1, hI.t2, fun _ => rfl, hI.t4, hI.t5, hI.t6, hI.kb, hI.mp, hI.mq, hI.hr⟩⟩
  · rintro L a wx ⟨v9, v10, v11, v12, v13, v14, v15, rfl, hI⟩ hL hdep hcl K hK
    go_simp
    exact hK _ _ ⟨v9, v10, v11, v12, _, v14, v15, rfl, ⟨hI.t0, hI.t1, hI.t2, hI.t3, fun _ => rfl, hI.t5, hI.t6, hI.kb, hI.mp, hI.mq, hI.hr⟩⟩
  · rintro L a wx ⟨v9, v10, v11, v12, v13, v14, v15, rfl, hI⟩ hL hdep hcl K hK
    obtain rfl := hI.t4 (hdep 4 (by decide))
    have HC' := HC.out wx
    go_simp
    refine HC'.mono ?_
    rintro e w' ⟨rfl, hb⟩
    exact hK _ _ ⟨v9, v10, v11, v12, _, _, v15, rfl, ⟨hI.t0, hI.t1, hI.t2, hI.t3, hI.t4, fun _ => rfl, hI.t6, (hI.kb).below hb, fun h => mapS ((hI.mp) h) (hb.block m ((hI.mp) h).lt), fun h => mapS ((hI.mq) h) (hb.block m ((hI.mq) h).lt), hI.hr⟩⟩
  · rintro L a wx ⟨v9, v10, v11, v12, v13, v14, v15, rfl, hI⟩ hL hdep hcl K hK
    go_simp
    exact hK _ _ ⟨v9, v10, v11, v12, v13, v14, _, rfl, ⟨hI.t0, hI.t1, hI.t2, hI.t3, hI.t4, hI.t5, fun _ => rfl, hI.kb, hI.mp, hI.mq, hI.hr⟩⟩
  · rintro L a wx ⟨v9, v10, v11, v12, v13, v14, v15, rfl, hI⟩ hL hdep hcl K hK
    obtain rfl := hI.t3 (hdep 3 (by decide))
    obtain rfl := hI.t5 (hdep 5 (by decide))
    obtain rfl := hI.t6 (hdep 6 (by decide))
    obtain ⟨w', h1, h2, h3, h4⟩ := put_run (hI.mq hL) g del_no
    go_simp
    exact hK _ _ ⟨v9, v10, v11, _, v13, _, _, rfl, ⟨hI.t0, hI.t1, hI.t2, hI.t3, hI.t4, hI.t5, hI.t6, hI.kb.grown h3 rfl, fun _ => h2, fun h => (nomatch (show true = false from h)), trivial⟩⟩
  · rintro a wx ⟨v9, v10, v11, v12, v13, v14, v15, rfl, hI⟩
    have hm := hI.mp rfl
    have hkb := hI.kb
    have hr := hI.hr
    clear hI
    refine bodyPost_end (results_none rfl _ _ _) rfl ⟨rfl, ?_, ?_⟩
    · exact HD.out.more g hkb hm del_no HG.out (fun f hf => HF.out f (del_mem.1 hf).1 (del_mem.1 hf).2) (fun f hf => HR.out f (del_mem.1 hf).1 (del_mem.1 hf).2) ⟨HGM.out.2.1, fun k hk => (HGM.out.2.2 k hk).2⟩
    · exact HK.out.trans (hkb.mono fun k e => .inr e)
end Go.Proofs.Ytcnkgenhbnafjaa
