/-
  A disk whose files are without bytes: the calls on it. Conditions: those in each statement.
-/
import Derived.Test.YtcnkgenhbnafjaaFiX
import Derived.Test.YtcnkgenhbnafjaaFiR
namespace Go.Proofs.Ytcnkgenhbnafjaa
open Go.RowKit

/-- a disk whose files are without bytes: their names -/
def Emp (w : World) (B r m q : Nat) (ns : List ByteArray) (u : Nat) (o : Bool) (g : Option Nat) : Prop := ∃ fs, IsD w B r m fs 0 q u o ∧ fs.map FS.name = ns ∧ (∀ f ∈ fs, f.data = [] ∧ f.lasts = 0) ∧ ∀ k, foot r m fs k → g ≠ some k
/-- what a call on it may change: not what was there ahead, and not the block g -/
abbrev Fr (B : Nat) (g : Option Nat) (w w' : World) : Prop := KB (fun k => B ≤ k ∧ g ≠ some k) w w'
variable {w : World} {B r m q u : Nat} {ns : List ByteArray} {o : Bool} {g : Option Nat}
theorem fr_foot {w' : World} {fs : List FS} {t : Nat} {Z : Nat → Prop} (h : IsD w B r m fs t q u o) (hg : ∀ k, foot r m fs k → g ≠ some k) (hk : KB Z w w') (hz : ∀ k, Z k → foot r m fs k) : Fr B g w w' :=
  hk.mono fun k e => ⟨(h.lt (hz k e)).2, hg k (hz k e)⟩
theorem Fr.of {w' : World} (hb : Below w.heap.size w w') : Fr B g w w' := KB.low0 hb
theorem Fr.low {w' : World} (h : Fr B g w w') (hB : B ≤ w.heap.size) : Below B w w' := h.under (fun _ e => e.1) hB
theorem Emp.cast {ns' : List ByteArray} (h : Emp w B r m q ns u o g) (e : ns = ns') : Emp w B r m q ns' u o g := e ▸ h
theorem Emp.to {w' : World} (h : Emp w B r m q ns u o g) (hb : Below w.heap.size w w') : Emp w' B r m q ns u o g := by
  obtain ⟨fs, h, h2⟩ := h
  exact ⟨fs, h.to hb, h2⟩
theorem Emp.base (h : Emp w B r m q ns u o g) : B ≤ w.heap.size := by
  obtain ⟨fs, h, -⟩ := h
  exact disk_base h
theorem emp_total {fs : List FS} (h : ∀ f ∈ fs, f.data = [] ∧ f.lasts = 0) : total fs = 0 := by
  induction fs with
  | nil => rfl
  | cons f fs ih =>
    have h1 := (h f List.mem_cons_self).1
    have h2 := ih fun g hg => h g (List.mem_cons_of_mem _ hg)
    unfold total at h2 ⊢
    simp only [List.map_cons, List.sum_cons, h2, h1, List.length_nil]
theorem at_not {fs : List FS} {s : ByteArray} (h : s ∉ fs.map FS.name) : atF fs s = none := by
  unfold atF
  rw [List.find?_eq_none]
  intro f hf e
  exact h (List.mem_map.2 ⟨f, hf, by simpa using e⟩)
theorem at_is {fs : List FS} {s : ByteArray} (hn : (fs.map FS.name).Nodup) (h : s ∈ fs.map FS.name) : ∃ f, atF fs s = some f ∧ f ∈ fs ∧ f.name = s := by
  obtain ⟨f, hf, e⟩ := List.mem_map.1 h
  have := atF_some hn hf
  rw [e] at this
  exact ⟨f, this, hf, e⟩
theorem del_names (fs : List FS) (s : ByteArray) : (del fs s).map FS.name = (fs.map FS.name).filter fun x => decide (x ≠ s) := by
  unfold del
  rw [List.filter_map]
  rfl
theorem rm_foot {fs : List FS} {k : Nat} (h : k = r ∨ k = m) : foot r m fs k := h.elim .inl fun e => .inr (.inl e)
theorem Emp.see {k : Nat} (h : Emp w B r m q ns u o g) (hk : w.heap.size ≤ k) : Emp w B r m q ns u o (some k) := by
  obtain ⟨fs, h, h2, h3, -⟩ := h
  refine ⟨fs, h, h2, h3, fun j hj e => ?_⟩
  have := (h.lt hj).1
  injection e with e
  omega
theorem foot_app {fs : List FS} {f : FS} {k : Nat} (h : foot r m (fs ++ [f]) k) : foot r m fs k ∨ k = f.fb ∨ f.dv.ownBlock = some k := by
  rcases h with h | h | ⟨x, hx, h⟩
  · exact .inl (.inl h)
  · exact .inl (.inr (.inl h))
  · rcases List.mem_append.1 hx with hx | hx
    · exact .inl (.inr (.inr ⟨x, hx, h⟩))
    · rw [List.mem_singleton.1 hx] at h
      exact .inr h
theorem foot_del {fs : List FS} {s : ByteArray} {k : Nat} (h : foot r m (del fs s) k) : foot r m fs k := by
  rcases h with h | h | ⟨x, hx, h⟩
  · exact .inl h
  · exact .inr (.inl h)
  · exact .inr (.inr ⟨x, (del_mem.1 hx).1, h⟩)
theorem e_new (q : Nat) (hq : q ≤ 9223372036854775807) (w : World) : Calls Try.prog 7 #[.int .i64 (q : Int)] w fun e w' => ∃ r m, e = .returned (.tuple #[.pointer (some ⟨r, 0, none⟩), .int .i64 0]) ∧ Emp w' w.heap.size r m q [] 0 false none ∧ Below w.heap.size w w' := by
  refine (New_any q hq w).mono ?_
  rintro e w' ⟨r, m, e1, hd, hb⟩
  exact ⟨r, m, e1, ⟨[], hd, rfl, by simp, fun _ _ e => by cases e⟩, hb⟩
theorem e_create (h : Emp w B r m q ns u false g) (s : ByteArray) (hs : nameB s = true) (hn : s ∉ ns) (hl : ns.length < 4096) (hu : u ≤ 9223372036854775807) (hu1 : u ≠ 1) (hgs : ∀ k, g = some k → ¬ w.heap.size ≤ k) :
    Calls Try.prog 9 #[.pointer (some ⟨r, 0, none⟩), .string s] w fun e w' => e = .returned (.int .i64 0) ∧ Emp w' B r m q (ns ++ [s]) (u - 1) false g ∧ Fr B g w w' := by
  obtain ⟨fs, h, rfl, h2, h3⟩ := h
  have ha := at_not hn
  have ht := emp_total h2
  refine (Create_ok w B r m fs 0 q u h s hs (by omega) (by omega) hu (.inr (by simpa using hl)) hu1).mono ?_
  rintro e w' ⟨e1, fb, hfb, hd, hk⟩
  rw [ha, del_none ha] at hd
  refine ⟨e1, ⟨_, hd, by simp, fun f hf => ?_, fun k hk => ?_⟩, fr_foot h h3 hk fun k e => rm_foot e⟩
  · rcases List.mem_append.1 hf with hf | hf
    · exact h2 f hf
    · rw [List.mem_singleton.1 hf]; exact ⟨rfl, rfl⟩
  · rcases foot_app hk with hk | hk | hk
    · exact h3 k hk
    · rw [hk]; exact fun e => hgs fb e hfb
    · cases hk
theorem e_create_off (h : Emp w B r m q ns 1 false g) (s : ByteArray) (hs : nameB s = true) (hl : ns.length < 4096) :
    Calls Try.prog 9 #[.pointer (some ⟨r, 0, none⟩), .string s] w fun e w' => e = .returned (.int .i64 8) ∧ Emp w' B r m q ns 0 true g ∧ Fr B g w w' := by
  obtain ⟨fs, h, rfl, h2, h3⟩ := h
  refine (Create_off w B r m fs 0 q h s hs (.inr (by simpa using hl))).mono ?_
  rintro e w' ⟨e1, hd, hk⟩
  exact ⟨e1, ⟨fs, hd, rfl, h2, h3⟩, fr_foot h h3 hk fun k e => .inl e⟩
theorem e_create_bad (h : Emp w B r m q ns u false g) (s : ByteArray) (hs : s.size ≤ 140737488355328) (hc : nameB s = false) :
    Calls Try.prog 9 #[.pointer (some ⟨r, 0, none⟩), .string s] w fun e w' => e = .returned (.int .i64 1) ∧ Below w.heap.size w w' := by
  obtain ⟨fs, h, rfl, h2, h3⟩ := h
  have h1 : chk false [s] = 1 := by simp [chk, hc]
  have := Create_bad w B r m fs 0 q u false h s hs (by rw [h1]; decide)
  rwa [h1] at this
theorem fnd6 {fs : List FS} {s : ByteArray} {ss : List ByteArray} (hs : ∀ x ∈ s :: ss, nameB x = true) (hn : s ∉ fs.map FS.name) : (fnd false (s :: ss) fs).2 = 6 := by
  have hc : chk false (s :: ss) = 0 := by
    unfold chk
    rw [if_neg (by decide), if_pos (List.all_eq_true.2 hs)]
  unfold fnd
  rw [if_pos hc]
  simp only [List.getD_cons_zero]
  rw [at_not hn]
theorem fnd1 {fs : List FS} {ss : List ByteArray} (hc : ss.all nameB = false) : (fnd false ss fs).2 = 1 := by
  have hc : chk false ss = 1 := by
    unfold chk
    rw [if_neg (by decide), if_neg (by rw [hc]; decide)]
  unfold fnd
  rw [if_neg (by rw [hc]; decide), hc]
theorem fnd8 {fs : List FS} {ss : List ByteArray} : (fnd true ss fs).2 = 8 := by
  have hc : chk true ss = 8 := rfl
  unfold fnd
  rw [if_neg (by rw [hc]; decide), hc]
theorem e_append6 (h : Emp w B r m q ns u false g) (s : ByteArray) (hs : nameB s = true) (hn : s ∉ ns) (v : Value) :
    Calls Try.prog 11 #[.pointer (some ⟨r, 0, none⟩), .string s, v] w fun e w' => e = .returned (.int .i64 6) ∧ Below w.heap.size w w' := by
  obtain ⟨fs, h, rfl, h2, h3⟩ := h
  have h6 := fnd6 (ss := []) (by simpa using hs) hn
  have := Append_bad w B r m fs 0 q u false h s (by have := name_size hs; omega) v (by rw [h6]; decide)
  rwa [h6] at this
theorem e_append0 (h : Emp w B r m q ns u false g) (s : ByteArray) (hs : nameB s = true) (hn : s ∈ ns) (hu : u ≤ 9223372036854775807) (hu1 : u ≠ 1) (hq : q ≤ 9223372036854775807) (hgs : ∀ k, g = some k → ¬ w.heap.size ≤ k) :
    Calls Try.prog 11 #[.pointer (some ⟨r, 0, none⟩), .string s, .slice none 0 0] w fun e w' => e = .returned (.int .i64 0) ∧ Emp w' B r m q ns (u - 1) false g ∧ Fr B g w w' := by
  obtain ⟨fs, h, rfl, h2, h3⟩ := h
  obtain ⟨f, hf, hf2, hf3⟩ := at_is h.names hn
  refine (Append_ok w B r m fs 0 q u h s hs f hf none 0 0 [] ⟨rfl, Nat.le_refl _, fun _ => rfl, fun h => by omega⟩ (fun ad e => by cases e) (by omega) hq hu hu1 (.inl rfl) (by rw [(h2 f hf2).1]; simp)).mono ?_
  rintro e w' ⟨e1, v, hd, hk, ho⟩
  refine ⟨e1, ⟨_, hd, upd1_names _ _, fun g hg => ?_, fun k hk => ?_⟩, fr_foot h h3 hk ?_⟩
  · rcases upd1_mem hg with rfl | ⟨hg, -⟩
    · exact ⟨by simp [(h2 f hf2).1], (h2 f hf2).2⟩
    · exact h2 g hg
  · rcases hk with hk | hk | ⟨x, hx, hk⟩
    · exact h3 k (.inl hk)
    · exact h3 k (.inr (.inl hk))
    · rcases upd1_mem hx with rfl | ⟨hx, -⟩
      · rcases hk with hk | hk
        · exact h3 k (.inr (.inr ⟨f, hf2, .inl hk⟩))
        · rcases ho k hk with hk | hk
          · exact h3 k (.inr (.inr ⟨f, hf2, .inr hk⟩))
          · exact fun e => hgs k e hk
      · exact h3 k (.inr (.inr ⟨x, hx, hk⟩))
  · rintro j (e | e)
    · exact .inl e
    · exact .inr (.inr ⟨f, hf2, e⟩)
theorem e_rename (h : Emp w B r m q ns u false g) (s s' : ByteArray) (hs : nameB s = true) (hs' : nameB s' = true) (hn : s ∈ ns) (hu : u ≤ 9223372036854775807) (hu1 : u ≠ 1) :
    Calls Try.prog 15 #[.pointer (some ⟨r, 0, none⟩), .string s, .string s'] w fun e w' => e = .returned (.int .i64 0) ∧ Emp w' B r m q (((ns.filter fun x => decide (x ≠ s)).filter fun x => decide (x ≠ s')) ++ [s']) (u - 1) false g ∧ Fr B g w w' := by
  obtain ⟨fs, h, rfl, h2, h3⟩ := h
  obtain ⟨f, hf, hf2, hf3⟩ := at_is h.names hn
  refine (Rename_ok w B r m fs 0 q u h s s' hs hs' f hf (by rw [emp_total h2]; omega) (by omega) hu hu1).mono ?_
  rintro e w' ⟨e1, hd, hk⟩
  rw [Nat.zero_sub] at hd
  refine ⟨e1, ⟨_, hd, by simp [del_names], fun g hg => ?_, fun k hk => ?_⟩, fr_foot h h3 hk fun k e => rm_foot e⟩
  · rcases List.mem_append.1 hg with hg | hg
    · exact h2 g (del_mem.1 (del_mem.1 hg).1).1
    · rw [List.mem_singleton.1 hg]; exact h2 f hf2
  · rcases foot_app hk with hk | hk
    · exact h3 k (foot_del (foot_del hk))
    · exact h3 k (.inr (.inr ⟨f, hf2, hk⟩))
theorem e_rename1 (h : Emp w B r m q ns u false g) (s s' : ByteArray) (hs : s.size ≤ 140737488355328) (hs' : s'.size ≤ 140737488355328) (hc : ([s, s'].all nameB) = false) :
    Calls Try.prog 15 #[.pointer (some ⟨r, 0, none⟩), .string s, .string s'] w fun e w' => e = .returned (.int .i64 1) ∧ Below w.heap.size w w' := by
  obtain ⟨fs, h, rfl, h2, h3⟩ := h
  have h6 := fnd1 (fs := fs) hc
  have := Rename_bad w B r m fs 0 q u false h s s' hs hs' (by rw [h6]; decide)
  rwa [h6] at this
theorem e_rename6 (h : Emp w B r m q ns u false g) (s s' : ByteArray) (hs : nameB s = true) (hs' : nameB s' = true) (hn : s ∉ ns) :
    Calls Try.prog 15 #[.pointer (some ⟨r, 0, none⟩), .string s, .string s'] w fun e w' => e = .returned (.int .i64 6) ∧ Below w.heap.size w w' := by
  obtain ⟨fs, h, rfl, h2, h3⟩ := h
  have h6 := fnd6 (ss := [s']) (by intro x hx; simp at hx; rcases hx with rfl | rfl <;> assumption) hn
  have := Rename_bad w B r m fs 0 q u false h s s' (by have := name_size hs; omega) (by have := name_size hs'; omega) (by rw [h6]; decide)
  rwa [h6] at this
theorem e_read6 (h : Emp w B r m q ns u false g) (s : ByteArray) (hs : nameB s = true) (hn : s ∉ ns) :
    Calls Try.prog 19 #[.pointer (some ⟨r, 0, none⟩), .string s] w fun e w' => e = .returned (.tuple #[.slice none 0 0, .int .i64 6]) ∧ Below w.heap.size w w' := by
  obtain ⟨fs, h, rfl, h2, h3⟩ := h
  have h6 := fnd6 (ss := []) (by simpa using hs) hn
  have := Read_bad w B r m fs 0 q u false h s (by have := name_size hs; omega) (by rw [h6]; decide)
  rwa [h6] at this
theorem e_read8 (h : Emp w B r m q ns u true g) (s : ByteArray) (hs : s.size ≤ 140737488355328) :
    Calls Try.prog 19 #[.pointer (some ⟨r, 0, none⟩), .string s] w fun e w' => e = .returned (.tuple #[.slice none 0 0, .int .i64 8]) ∧ Below w.heap.size w w' := by
  obtain ⟨fs, h, rfl, h2, h3⟩ := h
  have h6 := fnd8 (fs := fs) (ss := [s])
  have := Read_bad w B r m fs 0 q u true h s hs (by rw [h6]; decide)
  rwa [h6] at this
theorem e_fuse (h : Emp w B r m q ns u o g) (x : Nat) :
    Calls Try.prog 26 #[.pointer (some ⟨r, 0, none⟩), .int .i64 (x : Int)] w fun e w' => e = .returned (.tuple #[]) ∧ Emp w' B r m q ns x o g ∧ Fr B g w w' := by
  obtain ⟨fs, h, rfl, h2, h3⟩ := h
  refine (Fuse_any w B r m fs 0 q u o h x).mono ?_
  rintro e w' ⟨e1, hd, hk⟩
  exact ⟨e1, ⟨fs, hd, rfl, h2, h3⟩, fr_foot h h3 hk fun k e => .inl e⟩
theorem e_off (h : Emp w B r m q ns u o g) : Calls Try.prog 34 #[.pointer (some ⟨r, 0, none⟩)] w fun e w' => e = .returned (.bool o) ∧ w = w' := by
  obtain ⟨fs, h, -⟩ := h
  exact Off_any w B r m fs 0 q u o h
theorem e_name1 {s : ByteArray} (h : Emp w B r m q [s] u o g) : Calls Try.prog 33 #[.pointer (some ⟨r, 0, none⟩)] w fun e w' => ∃ k c, e = .returned (.slice (some ⟨k, 0, none⟩) 1 c) ∧ w.heap.size ≤ k ∧ k < w'.heap.size ∧ 1 ≤ c ∧ w'.cell? ⟨k, 0, none⟩ = some (.string s) ∧ Below w.heap.size w w' := by
  obtain ⟨fs, h, e, h2, h3⟩ := h
  have hl : fs.length = 1 := by have := congrArg List.length e; simpa using this
  refine (Names_any w B r m fs 0 q u o h (by omega)).mono ?_
  rintro e' w' ⟨v, e1, hv, hb⟩
  have hn : namesF fs = [s] := by unfold namesF; rw [e]; exact sort_one s
  rw [hn] at hv
  obtain ⟨k, c, e2, hk1, hk2⟩ := hv.solid (by simp)
  obtain ⟨a, c', e3, hr, -⟩ := hv.rd (by omega)
  rw [e2] at e3
  injection e3 with x1 x2 x3
  subst x1 x3
  refine ⟨k, c, by rw [e1, e2]; rfl, hk1, hk2, hr.le, ?_, hb⟩
  have := hr.cells (by omega) 0 (.string s) rfl
  exact this
theorem e_names (h : Emp w B r m q ns u o g) (hl : ns.length ≤ 1048576) : Calls Try.prog 33 #[.pointer (some ⟨r, 0, none⟩)] w fun e w' => ∃ a c, e = .returned (.slice a ns.length c) ∧ RdG 1 encS w' a ns.length c (sortS ns) ∧ Below w.heap.size w w' := by
  obtain ⟨fs, h, rfl, h2, h3⟩ := h
  refine (Names_any w B r m fs 0 q u o h (by simpa using hl)).mono ?_
  rintro e w' ⟨v, e1, hv, hb⟩
  obtain ⟨a, c, rfl, hr, -⟩ := hv.rd (by omega)
  have hlen : (namesF fs).length = (fs.map FS.name).length := sortS_len _
  rw [hlen] at e1 hr
  exact ⟨a, c, e1, hr, hb⟩
theorem crash_same {fs : List FS} (h : ∀ f ∈ fs, f.data = [] ∧ f.lasts = 0) : ∀ (ns : List ByteArray) (ps : List Nat), crashG ns ps fs = fs := by
  intro ns
  induction ns with
  | nil => intro ps; rfl
  | cons s ns ih =>
    intro ps
    cases hx : atF fs s with
    | none => rw [crashG, hx]; exact ih ps
    | some f =>
      have hf := h f (atF_mem hx).1
      rw [crashG_none hx (by unfold lse; rw [hf.1]; simp)]
      exact ih ps
theorem e_crash0 (h : Emp w B r m q ns u o g) (hl : ns.length ≤ 1048576) :
    Calls Try.prog 28 #[.pointer (some ⟨r, 0, none⟩), .slice none 0 0] w fun e w' => e = .returned (.tuple #[]) ∧ Emp w' B r m q ns 0 false g ∧ Fr B g w w' := by
  obtain ⟨fs, h, rfl, h2, h3⟩ := h
  have ht := emp_total h2
  refine (Crash_any w B r m fs q u o (by rw [ht]; exact h) none 0 0 [] (RdG.void w) (by simp) (fun ad e => by cases e) (by simpa using hl) (by omega) (fun f hf => by rw [(h2 f hf).1]; simp) (by omega)).mono ?_
  rintro e w' ⟨e1, hd, hk⟩
  rw [crash_same h2, ht] at hd
  exact ⟨e1, ⟨fs, hd, rfl, h2, h3⟩, fr_foot h h3 hk fun k e => e⟩
end Go.Proofs.Ytcnkgenhbnafjaa
