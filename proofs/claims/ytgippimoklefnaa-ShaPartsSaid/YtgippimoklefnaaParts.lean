/-
  ShaParts holds for arguments of bulk at most 1048576: written part by part, asked and copied between, the hash is that of all at once; the arguments read as they did.
-/
import Derived.Test.YtgippimoklefnaaSums
namespace Go.Proofs.Ytgippimoklefnaa
open Go.ChangeShapes Go.WideShapes Go.ChangeAt Go.RowKit

theorem rd_dropM {w : World} {a : Option Addr} {n cap : Nat} {xs : List UInt8} (h : Rd w a n cap xs) (k : Nat) (hk : k ≤ n) : Rd w (Option.map (fun x : Addr => x.add k) a) (n - k) (cap - k) (xs.drop k) := by
  have h1 := h.len
  have h2 := h.le
  refine ⟨by simp; omega, by omega, fun e => ?_, fun h0 => ?_⟩
  · have : a = none := by cases a <;> simp_all
    have := h.nil this
    omega
  · obtain ⟨b, off, rfl, -⟩ := h.mem (by omega)
    have := (rd_drop h k hk (by omega)).mem h0
    rw [Option.map_some, Addr.add_mid]
    exact this

theorem St.drew {w : World} {r : Nat} {xs : List UInt8} (h : St w r xs) : St w.drew r xs := by
  obtain ⟨rest, h1, h2⟩ := h
  exact ⟨rest, h1, h2.drew⟩

structure InvP (xs S : List UInt8) (q n cap r r' bb off pb po n' cap' j : Nat) (g : Nat) (w : World) (L : Nat → Bool) (v52 v53 v54 v55 v56 v57 v58 v59 v60 v61 v62 v63 v64 v65 v66 v67 v68 v69 : Value) (wx : World) : Prop where
  t0 : L 0 = true → v52 = .pointer (some ⟨r', 0, none⟩)
  t1 : L 1 = true → v53 = .bool false
  t2 : L 2 = true → v54 = .bool false
  t3 : L 3 = true → v55 = .pointer (some ⟨r, 0, none⟩)
  t4 : L 4 = true → v56 = .agg (bvs S).toArray
  t5 : L 5 = true → v57 = .slice (some ⟨bb, off, none⟩) n cap
  t6 : L 6 = true → v58 = .int .i64 (q : Int)
  t7 : L 7 = true → v59 = .slice (some ⟨bb, off, none⟩) q cap
  t8 : L 8 = true → v60 = .agg (bvs S).toArray
  t9 : L 9 = true → v61 = .bool false
  t10 : L 10 = true → v62 = .bool false
  t11 : L 11 = true → v63 = .bool false
  t12 : L 12 = true → v64 = .pointer (some ⟨r', 0, none⟩)
  t13 : L 13 = true → v65 = .agg (bvs S).toArray
  t14 : L 14 = true → v66 = .pointer (some ⟨r, 0, none⟩)
  t15 : L 15 = true → v67 = .agg (bvs S).toArray
  t16 : L 16 = true → v68 = .bool false
  t17 : L 17 = true → v69 = .bool false
  sr : St wx r (xs.take q)
  sx : St wx r' (xs.take q)
  rb : Rd wx (some ⟨bb, off, none⟩) n cap xs
  bl : Below g w wx

set_option maxHeartbeats 16000000 in
set_option maxRecDepth 100000 in
theorem Parts_any (xs ps : List UInt8) (a a' : Option Addr) (n n' cap cap' : Nat) (w : World) (hx : xs.length + ps.length ≤ 562949953421312) (hr : Rd w a n cap xs) (hp : Rd w a' n' cap' ps) :
    Calls Try.prog 6 #[.slice a n cap, .slice a' n' cap'] w fun e w' => e = .returned (.bool true) ∧ Below w.heap.size w w' := by
  have HX := Lib.hid hx
  clear hx
  go_enter Try.func6, Try.ntmps6
  go_upto_region 3 with (first
    | (go_at_call 12; refine (New_any _).mono ?_; rintro e w1 ⟨r, rfl, hS1, hr1, hb1⟩)
    | (go_at_call 11; refine (wakes_any _).mono ?_; rintro e w2 ⟨rfl, hb2⟩))
  have hS := hS1.to hb2 hS1.lt
  have hB := hb1.trans (hb2.mono hb1.size)
  have hrlt := hS.lt
  generalize hg : w.heap.size = g at *
  clear hS1 hb1 hb2
  go_loopw [6, 7] (fun at_ i wr => ∃ (k j : Nat), k ≤ n ∧ j ≤ n' ∧ at_ = .int .i64 k ∧ i = .int .i64 j ∧ St wr r (xs.take k) ∧ Below g w wr) (fun _ i _ => n' - (intOf i).toNat)
  case atStart => exact ⟨0, 0, by omega, by omega, rfl, rfl, hS, hB⟩
  case round =>
    obtain ⟨k, j, hk, hj, rfl, rfl, hS, hb⟩ := hrel
    have hrlt' := hS.lt
    have hr' := hr.to (hg ▸ hb)
    have hp' := hp.to (hg ▸ hb)
    by_cases h1 : j < n'
    · by_cases h2 : k < n
      · have hc1 : (j : Int) < n' := by omega
        have hc2 : (k : Int) < n := by omega
        obtain ⟨pb, po, rfl, hpb, -⟩ := hp.mem (by have := hp'.le; omega)
        rw [hg] at hpb
        obtain ⟨b2, o2, e2, -, hpx⟩ := hp'.mem (by have := hp'.le; omega)
        cases e2
        obtain ⟨bb, off, rfl, hbb, -⟩ := hr.mem (by have := hr'.le; omega)
        rw [hg] at hbb
        have hlen := hr'.len
        have hplen := hp'.len
        have hle := hr'.le
        have hn40 : n + n' ≤ 562949953421312 := by have := HX.out; omega
        obtain ⟨z, hz⟩ : ∃ z, z = (ps.getD j 0).toNat := ⟨_, rfl⟩
        have hpc := hpx j h1
        rw [← hz] at hpc
        have hz8 : z < 256 := by rw [hz]; exact (ps.getD j 0).toNat_lt
        obtain ⟨m, hm⟩ : ∃ m, m = min z (n - k) := ⟨_, rfl⟩
        have em : min (z : Int) ((n : Int) - (k : Int)) = (m : Int) := by omega
        have hm1 : k + m ≤ n := by omega
        have HZ := Lib.hid hz
        have HL := Lib.hid hlen
        have HPL := Lib.hid hplen
        have HPX := Lib.hid hpx
        clear hz hlen hplen hpx hm
        have hT : Hid (xs.take k ++ (xs.drop k).take m = xs.take (k + m)) := (List.take_add ..).symm
        have hne : ∀ ad, some (⟨bb, off + k, none⟩ : Addr) = some ad → 0 < cap - k → ad.block ≠ r := fun ad e _ => by cases e; show bb ≠ r; omega
        have hrd := (rd_drop hr' k (by omega) (by omega)).take m (by omega)
        have hcap : (xs.take k).length + ((xs.drop k).take m).length ≤ 1152921504606846976 := by simp only [List.length_take, List.length_drop]; omega
        have HC := Lib.hid hcap
        clear hcap
        go_upto_region 1 with (first
          | (go_at_call 13; go_loud (refine (Write_any _ _ _ _ _ _ _ HC.out hrd hne hS).mono ?_); rintro e w3 ⟨rfl, hS3, hg3⟩; rw [hT.out] at hS3)
          | (go_at_call 16; go_loud (refine (Copy_any _ _ _ hS3).mono ?_); rintro e w4 ⟨r', rfl, hX4, hr4, hb4⟩))
        have eq_ : (k : Int) + (m : Int) = ((k + m : Nat) : Int) := by push_cast; rfl
        rw [eq_]
        clear eq_
        obtain ⟨q, hq⟩ : ∃ q, q = k + m := ⟨_, rfl⟩
        rw [← hq] at hS3 hX4 hm1 ⊢
        have HQ := Lib.hid hq
        clear hq
        have y3 := hS3.lt
        have y4 := hb4.size
        have hS4 := hS3.kept hb4
        have hB4 : Below g w w4 := (hb.grown hg3 (by omega) (by intro i e; injection e with e; omega)).trans (hb4.mono (by omega))
        have hrd4 := hr.to (hg ▸ hB4)
        have HGR := Lib.hid hr1
        have hrx : Hid (r < r') := by show _ < _; omega
        obtain ⟨S, hSd⟩ : ∃ S, S = shaL (xs.take q) := ⟨_, rfl⟩
        have hSl : S.length = 32 := by rw [hSd]; exact shaL_len _
        have hqs : (xs.take q).length ≤ 576460752303423488 := by rw [List.length_take]; omega
        have K1 : Hid (∀ r w, St w r (xs.take q) → Calls Try.prog 15 #[.pointer (some ⟨r, 0, none⟩)] w fun e w' => e = .returned (.agg (bvs S).toArray) ∧ Below w.heap.size w w') := fun r w h => by rw [hSd]; exact Sum_any r _ w hqs h
        have K2 : Hid (∀ w, Rd w (some ⟨bb, off, none⟩) n cap xs → Calls Try.prog 9 #[.slice (some ⟨bb, off, none⟩) q cap] w fun e w' => e = .returned (.agg (bvs S).toArray) ∧ Below w.heap.size w w') := fun w h => by rw [hSd]; exact shaSum_any _ _ _ _ w hqs (h.take q hm1)
        have hneq : ∀ W, (binOp .neq 24 (.agg (bvs S).toArray) (.agg (bvs S).toArray)).run Try.prog W = .ok (.bool false) W := fun W => by rw [neD hSl hSl]; simp
        have hq1 : q ≤ cap := by omega
        clear hS3 hg3 hb4 hrd hr' hp' hr4 hpc HPX em hSd hSl hqs
        refine wp_region_steps [[], [0], [1], [2], [3, 2], [2], [2], [5, 6, 2], [7, 4, 2], [4, 8, 2], [2, 9], [10, 8], [11], [12, 11], [11], [14, 13, 11], [13, 15, 11], [11, 16]] (by kernel_rfl) (by kernel_rfl) (fun L a wx => ∃ v52 v53 v54 v55 v56 v57 v58 v59 v60 v61 v62 v63 v64 v65 v66 v67 v68 v69, a = ⟨#[.slice (some ⟨bb, off, none⟩) n cap, .slice (some ⟨pb, po, none⟩) n' cap', undef, undef, u4, .pointer (some ⟨r, 0, none⟩), .int .i64 (q : Int), .int .i64 (j : Int), .int .i64 (m : Int), .pointer (some ⟨r', 0, none⟩), .pointer (some ⟨r, 0, none⟩), .pointer (some ⟨r, 0, none⟩), .bool false, .bool false, .bool true, .bool false, .bool false, .int .i64 (j : Int), .slice (some ⟨pb, po, none⟩) n' cap', .int .i64 (n' : Int), .bool true, .bool true, .int .i64 (k : Int), .slice (some ⟨bb, off, none⟩) n cap, .int .i64 (n : Int), .bool true, .bool true, u27, u28, .slice (some ⟨pb, po, none⟩) n' cap', .int .i64 (j : Int), .pointer (some ⟨pb, po + j, none⟩), .int .u8 (z : Int), .int .i64 (z : Int), .slice (some ⟨bb, off, none⟩) n cap, .int .i64 (n : Int), .int .i64 (k : Int), .int .i64 ((n : Int) - (k : Int)), .int .i64 (m : Int), .pointer (some ⟨r, 0, none⟩), .slice (some ⟨bb, off, none⟩) n cap, .int .i64 (k : Int), .int .i64 (k : Int), .int .i64 (m : Int), .int .i64 (q : Int), .slice (some ⟨bb, off + k, none⟩) m (cap - k), .tuple #[], .int .i64 (k : Int), .int .i64 (m : Int), .int .i64 (q : Int), .pointer (some ⟨r, 0, none⟩), .pointer (some ⟨r', 0, none⟩), v52, v53, v54, v55, v56, v57, v58, v59, v60, v61, v62, v63, v64, v65, v66, v67, v68, v69, u70, u71, u72, undef, undef, undef, undef, undef, undef, undef, undef, undef, undef, undef, undef, undef, undef, undef, undef, undef, undef], []⟩ ∧ InvP xs S q n cap r r' bb off pb po n' cap' j g w L v52 v53 v54 v55 v56 v57 v58 v59 v60 v61 v62 v63 v64 v65 v66 v67 v68 v69 wx) ?_ ⟨?_, ?_, ?_, ?_, ?_, ?_, ?_, ?_, ?_, ?_, ?_, ?_, ?_, ?_, ?_, ?_, ?_, ?_, trivial⟩ ?_
        · refine ⟨_, _, _, _, _, _, _, _, _, _, _, _, _, _, _, _, _, _, rfl, ⟨?_, ?_, ?_, ?_, ?_, ?_, ?_, ?_, ?_, ?_, ?_, ?_, ?_, ?_, ?_, ?_, ?_, ?_, hS4.drew, hX4.drew, rd_drew hrd4, hB4.drew⟩⟩ <;> (intro h; exact absurd h (by decide))
        · rintro L a wx ⟨v52, v53, v54, v55, v56, v57, v58, v59, v60, v61, v62, v63, v64, v65, v66, v67, v68, v69, rfl, hI⟩ hL hdep hcl K hK
          go_simp
          exact hK _ _ ⟨_, v53, v54, v55, v56, v57, v58, v59, v60, v61, v62, v63, v64, v65, v66, v67, v68, v69, rfl, ⟨fun _ => rfl, hI.t1, hI.t2, hI.t3, hI.t4, hI.t5, hI.t6, hI.t7, hI.t8, hI.t9, hI.t10, hI.t11, hI.t12, hI.t13, hI.t14, hI.t15, hI.t16, hI.t17, hI.sr, hI.sx, hI.rb, hI.bl⟩⟩
        · rintro L a wx ⟨v52, v53, v54, v55, v56, v57, v58, v59, v60, v61, v62, v63, v64, v65, v66, v67, v68, v69, rfl, hI⟩ hL hdep hcl K hK
          obtain rfl := hI.t0 (hdep 0 (by decide))
          go_simp
          exact hK _ _ ⟨_, _, v54, v55, v56, v57, v58, v59, v60, v61, v62, v63, v64, v65, v66, v67, v68, v69, rfl, ⟨hI.t0, fun _ => rfl, hI.t2, hI.t3, hI.t4, hI.t5, hI.t6, hI.t7, hI.t8, hI.t9, hI.t10, hI.t11, hI.t12, hI.t13, hI.t14, hI.t15, hI.t16, hI.t17, hI.sr, hI.sx, hI.rb, hI.bl⟩⟩
        · rintro L a wx ⟨v52, v53, v54, v55, v56, v57, v58, v59, v60, v61, v62, v63, v64, v65, v66, v67, v68, v69, rfl, hI⟩ hL hdep hcl K hK
          obtain rfl := hI.t1 (hdep 1 (by decide))
          go_simp
          exact hK _ _ ⟨v52, _, _, v55, v56, v57, v58, v59, v60, v61, v62, v63, v64, v65, v66, v67, v68, v69, rfl, ⟨hI.t0, hI.t1, fun _ => rfl, hI.t3, hI.t4, hI.t5, hI.t6, hI.t7, hI.t8, hI.t9, hI.t10, hI.t11, hI.t12, hI.t13, hI.t14, hI.t15, hI.t16, hI.t17, hI.sr, hI.sx, hI.rb, hI.bl⟩⟩
        · rintro L a wx ⟨v52, v53, v54, v55, v56, v57, v58, v59, v60, v61, v62, v63, v64, v65, v66, v67, v68, v69, rfl, hI⟩ hL hdep hcl K hK
          obtain rfl := hI.t2 (hdep 2 (by decide))
          refine (if_pos rfl).mpr ?_
          go_simp
          exact hK _ _ ⟨v52, v53, _, _, v56, v57, v58, v59, v60, v61, v62, v63, v64, v65, v66, v67, v68, v69, rfl, ⟨hI.t0, hI.t1, hI.t2, fun _ => rfl, hI.t4, hI.t5, hI.t6, hI.t7, hI.t8, hI.t9, hI.t10, hI.t11, hI.t12, hI.t13, hI.t14, hI.t15, hI.t16, hI.t17, hI.sr, hI.sx, hI.rb, hI.bl⟩⟩
        · rintro L a wx ⟨v52, v53, v54, v55, v56, v57, v58, v59, v60, v61, v62, v63, v64, v65, v66, v67, v68, v69, rfl, hI⟩ hL hdep hcl K hK
          obtain rfl := hI.t3 (hdep 3 (by decide))
          obtain rfl := hI.t2 (hdep 2 (by decide))
          refine (if_pos rfl).mpr ?_
          go_simp
          refine (K1.out _ _ hI.sr).mono ?_
          rintro e w' ⟨rfl, hb⟩
          exact hK _ _ ⟨v52, v53, _, _, _, v57, v58, v59, v60, v61, v62, v63, v64, v65, v66, v67, v68, v69, rfl, ⟨hI.t0, hI.t1, hI.t2, hI.t3, fun _ => rfl, hI.t5, hI.t6, hI.t7, hI.t8, hI.t9, hI.t10, hI.t11, hI.t12, hI.t13, hI.t14, hI.t15, hI.t16, hI.t17, hI.sr.kept hb, hI.sx.kept hb, hI.rb.to hb, hI.bl.trans (hb.mono (Nat.le_of_lt (Nat.lt_of_le_of_lt HGR.out hI.sr.lt)))⟩⟩
        · rintro L a wx ⟨v52, v53, v54, v55, v56, v57, v58, v59, v60, v61, v62, v63, v64, v65, v66, v67, v68, v69, rfl, hI⟩ hL hdep hcl K hK
          obtain rfl := hI.t2 (hdep 2 (by decide))
          refine (if_pos rfl).mpr ?_
          go_simp
          exact hK _ _ ⟨v52, v53, _, v55, v56, _, v58, v59, v60, v61, v62, v63, v64, v65, v66, v67, v68, v69, rfl, ⟨hI.t0, hI.t1, hI.t2, hI.t3, hI.t4, fun _ => rfl, hI.t6, hI.t7, hI.t8, hI.t9, hI.t10, hI.t11, hI.t12, hI.t13, hI.t14, hI.t15, hI.t16, hI.t17, hI.sr, hI.sx, hI.rb, hI.bl⟩⟩
        · rintro L a wx ⟨v52, v53, v54, v55, v56, v57, v58, v59, v60, v61, v62, v63, v64, v65, v66, v67, v68, v69, rfl, hI⟩ hL hdep hcl K hK
          obtain rfl := hI.t2 (hdep 2 (by decide))
          refine (if_pos rfl).mpr ?_
          go_simp
          exact hK _ _ ⟨v52, v53, _, v55, v56, v57, _, v59, v60, v61, v62, v63, v64, v65, v66, v67, v68, v69, rfl, ⟨hI.t0, hI.t1, hI.t2, hI.t3, hI.t4, hI.t5, fun _ => rfl, hI.t7, hI.t8, hI.t9, hI.t10, hI.t11, hI.t12, hI.t13, hI.t14, hI.t15, hI.t16, hI.t17, hI.sr, hI.sx, hI.rb, hI.bl⟩⟩
        · rintro L a wx ⟨v52, v53, v54, v55, v56, v57, v58, v59, v60, v61, v62, v63, v64, v65, v66, v67, v68, v69, rfl, hI⟩ hL hdep hcl K hK
          obtain rfl := hI.t5 (hdep 5 (by decide))
          obtain rfl := hI.t6 (hdep 6 (by decide))
          obtain rfl := hI.t2 (hdep 2 (by decide))
          refine (if_pos rfl).mpr ?_
          go_simp
          exact hK _ _ ⟨v52, v53, _, v55, v56, _, _, _, v60, v61, v62, v63, v64, v65, v66, v67, v68, v69, rfl, ⟨hI.t0, hI.t1, hI.t2, hI.t3, hI.t4, hI.t5, hI.t6, fun _ => rfl, hI.t8, hI.t9, hI.t10, hI.t11, hI.t12, hI.t13, hI.t14, hI.t15, hI.t16, hI.t17, hI.sr, hI.sx, hI.rb, hI.bl⟩⟩
        · rintro L a wx ⟨v52, v53, v54, v55, v56, v57, v58, v59, v60, v61, v62, v63, v64, v65, v66, v67, v68, v69, rfl, hI⟩ hL hdep hcl K hK
          obtain rfl := hI.t7 (hdep 7 (by decide))
          obtain rfl := hI.t4 (hdep 4 (by decide))
          obtain rfl := hI.t2 (hdep 2 (by decide))
          refine (if_pos rfl).mpr ?_
          go_simp
          refine (K2.out _ hI.rb).mono ?_
          rintro e w' ⟨rfl, hb⟩
          exact hK _ _ ⟨v52, v53, _, v55, _, v57, v58, _, _, v61, v62, v63, v64, v65, v66, v67, v68, v69, rfl, ⟨hI.t0, hI.t1, hI.t2, hI.t3, hI.t4, hI.t5, hI.t6, hI.t7, fun _ => rfl, hI.t9, hI.t10, hI.t11, hI.t12, hI.t13, hI.t14, hI.t15, hI.t16, hI.t17, hI.sr.kept hb, hI.sx.kept hb, hI.rb.to hb, hI.bl.trans (hb.mono (Nat.le_of_lt (Nat.lt_of_le_of_lt HGR.out hI.sr.lt)))⟩⟩
        · rintro L a wx ⟨v52, v53, v54, v55, v56, v57, v58, v59, v60, v61, v62, v63, v64, v65, v66, v67, v68, v69, rfl, hI⟩ hL hdep hcl K hK
          obtain rfl := hI.t4 (hdep 4 (by decide))
          obtain rfl := hI.t8 (hdep 8 (by decide))
          obtain rfl := hI.t2 (hdep 2 (by decide))
          refine (if_pos rfl).mpr ?_
          go_simp
          exact hK _ _ ⟨v52, v53, _, v55, _, v57, v58, v59, _, _, v62, v63, v64, v65, v66, v67, v68, v69, rfl, ⟨hI.t0, hI.t1, hI.t2, hI.t3, hI.t4, hI.t5, hI.t6, hI.t7, hI.t8, fun _ => rfl, hI.t10, hI.t11, hI.t12, hI.t13, hI.t14, hI.t15, hI.t16, hI.t17, hI.sr, hI.sx, hI.rb, hI.bl⟩⟩
        · rintro L a wx ⟨v52, v53, v54, v55, v56, v57, v58, v59, v60, v61, v62, v63, v64, v65, v66, v67, v68, v69, rfl, hI⟩ hL hdep hcl K hK
          obtain rfl := hI.t2 (hdep 2 (by decide))
          obtain rfl := hI.t9 (hdep 9 (by decide))
          go_simp
          exact hK _ _ ⟨v52, v53, _, v55, v56, v57, v58, v59, v60, _, _, v63, v64, v65, v66, v67, v68, v69, rfl, ⟨hI.t0, hI.t1, hI.t2, hI.t3, hI.t4, hI.t5, hI.t6, hI.t7, hI.t8, hI.t9, fun _ => rfl, hI.t11, hI.t12, hI.t13, hI.t14, hI.t15, hI.t16, hI.t17, hI.sr, hI.sx, hI.rb, hI.bl⟩⟩
        · rintro L a wx ⟨v52, v53, v54, v55, v56, v57, v58, v59, v60, v61, v62, v63, v64, v65, v66, v67, v68, v69, rfl, hI⟩ hL hdep hcl K hK
          obtain rfl := hI.t10 (hdep 10 (by decide))
          obtain rfl := hI.t8 (hdep 8 (by decide))
          go_simp
          exact hK _ _ ⟨v52, v53, v54, v55, v56, v57, v58, v59, _, v61, _, _, v64, v65, v66, v67, v68, v69, rfl, ⟨hI.t0, hI.t1, hI.t2, hI.t3, hI.t4, hI.t5, hI.t6, hI.t7, hI.t8, hI.t9, hI.t10, fun _ => rfl, hI.t12, hI.t13, hI.t14, hI.t15, hI.t16, hI.t17, hI.sr, hI.sx, hI.rb, hI.bl⟩⟩
        · rintro L a wx ⟨v52, v53, v54, v55, v56, v57, v58, v59, v60, v61, v62, v63, v64, v65, v66, v67, v68, v69, rfl, hI⟩ hL hdep hcl K hK
          obtain rfl := hI.t11 (hdep 11 (by decide))
          refine (if_pos rfl).mpr ?_
          go_simp
          exact hK _ _ ⟨v52, v53, v54, v55, v56, v57, v58, v59, v60, v61, v62, _, _, v65, v66, v67, v68, v69, rfl, ⟨hI.t0, hI.t1, hI.t2, hI.t3, hI.t4, hI.t5, hI.t6, hI.t7, hI.t8, hI.t9, hI.t10, hI.t11, fun _ => rfl, hI.t13, hI.t14, hI.t15, hI.t16, hI.t17, hI.sr, hI.sx, hI.rb, hI.bl⟩⟩
        · rintro L a wx ⟨v52, v53, v54, v55, v56, v57, v58, v59, v60, v61, v62, v63, v64, v65, v66, v67, v68, v69, rfl, hI⟩ hL hdep hcl K hK
          obtain rfl := hI.t12 (hdep 12 (by decide))
          obtain rfl := hI.t11 (hdep 11 (by decide))
          refine (if_pos rfl).mpr ?_
          go_simp
          refine (K1.out _ _ hI.sx).mono ?_
          rintro e w' ⟨rfl, hb⟩
          exact hK _ _ ⟨v52, v53, v54, v55, v56, v57, v58, v59, v60, v61, v62, _, _, _, v66, v67, v68, v69, rfl, ⟨hI.t0, hI.t1, hI.t2, hI.t3, hI.t4, hI.t5, hI.t6, hI.t7, hI.t8, hI.t9, hI.t10, hI.t11, hI.t12, fun _ => rfl, hI.t14, hI.t15, hI.t16, hI.t17, hI.sr.kept hb, hI.sx.kept hb, hI.rb.to hb, hI.bl.trans (hb.mono (Nat.le_of_lt (Nat.lt_of_le_of_lt HGR.out hI.sr.lt)))⟩⟩
        · rintro L a wx ⟨v52, v53, v54, v55, v56, v57, v58, v59, v60, v61, v62, v63, v64, v65, v66, v67, v68, v69, rfl, hI⟩ hL hdep hcl K hK
          obtain rfl := hI.t11 (hdep 11 (by decide))
          refine (if_pos rfl).mpr ?_
          go_simp
          exact hK _ _ ⟨v52, v53, v54, v55, v56, v57, v58, v59, v60, v61, v62, _, v64, v65, _, v67, v68, v69, rfl, ⟨hI.t0, hI.t1, hI.t2, hI.t3, hI.t4, hI.t5, hI.t6, hI.t7, hI.t8, hI.t9, hI.t10, hI.t11, hI.t12, hI.t13, fun _ => rfl, hI.t15, hI.t16, hI.t17, hI.sr, hI.sx, hI.rb, hI.bl⟩⟩
        · rintro L a wx ⟨v52, v53, v54, v55, v56, v57, v58, v59, v60, v61, v62, v63, v64, v65, v66, v67, v68, v69, rfl, hI⟩ hL hdep hcl K hK
          obtain rfl := hI.t14 (hdep 14 (by decide))
          obtain rfl := hI.t13 (hdep 13 (by decide))
          obtain rfl := hI.t11 (hdep 11 (by decide))
          refine (if_pos rfl).mpr ?_
          go_simp
          refine (K1.out _ _ hI.sr).mono ?_
          rintro e w' ⟨rfl, hb⟩
          exact hK _ _ ⟨v52, v53, v54, v55, v56, v57, v58, v59, v60, v61, v62, _, v64, _, _, _, v68, v69, rfl, ⟨hI.t0, hI.t1, hI.t2, hI.t3, hI.t4, hI.t5, hI.t6, hI.t7, hI.t8, hI.t9, hI.t10, hI.t11, hI.t12, hI.t13, hI.t14, fun _ => rfl, hI.t16, hI.t17, hI.sr.kept hb, hI.sx.kept hb, hI.rb.to hb, hI.bl.trans (hb.mono (Nat.le_of_lt (Nat.lt_of_le_of_lt HGR.out hI.sr.lt)))⟩⟩
        · rintro L a wx ⟨v52, v53, v54, v55, v56, v57, v58, v59, v60, v61, v62, v63, v64, v65, v66, v67, v68, v69, rfl, hI⟩ hL hdep hcl K hK
          obtain rfl := hI.t13 (hdep 13 (by decide))
          obtain rfl := hI.t15 (hdep 15 (by decide))
          obtain rfl := hI.t11 (hdep 11 (by decide))
          refine (if_pos rfl).mpr ?_
          go_simp
          exact hK _ _ ⟨v52, v53, v54, v55, v56, v57, v58, v59, v60, v61, v62, _, v64, _, v66, _, _, v69, rfl, ⟨hI.t0, hI.t1, hI.t2, hI.t3, hI.t4, hI.t5, hI.t6, hI.t7, hI.t8, hI.t9, hI.t10, hI.t11, hI.t12, hI.t13, hI.t14, hI.t15, fun _ => rfl, hI.t17, hI.sr, hI.sx, hI.rb, hI.bl⟩⟩
        · rintro L a wx ⟨v52, v53, v54, v55, v56, v57, v58, v59, v60, v61, v62, v63, v64, v65, v66, v67, v68, v69, rfl, hI⟩ hL hdep hcl K hK
          obtain rfl := hI.t11 (hdep 11 (by decide))
          obtain rfl := hI.t16 (hdep 16 (by decide))
          go_simp
          exact hK _ _ ⟨v52, v53, v54, v55, v56, v57, v58, v59, v60, v61, v62, _, v64, v65, v66, v67, _, _, rfl, ⟨hI.t0, hI.t1, hI.t2, hI.t3, hI.t4, hI.t5, hI.t6, hI.t7, hI.t8, hI.t9, hI.t10, hI.t11, hI.t12, hI.t13, hI.t14, hI.t15, hI.t16, fun _ => rfl, hI.sr, hI.sx, hI.rb, hI.bl⟩⟩
        · rintro a wx ⟨v52, v53, v54, v55, v56, v57, v58, v59, v60, v61, v62, v63, v64, v65, v66, v67, v68, v69, rfl, hI⟩
          obtain rfl := hI.t17 rfl
          have hB5 := hI.bl
          have hS5 := hI.sr
          have hX5 := hI.sx
          clear hI hS4 hX4 hrd4 hB4
          have hpw := hp.to (hg ▸ hB5)
          have hne' : ∀ ad, some (⟨pb, po, none⟩ : Addr) = some ad → 0 < cap' → ad.block ≠ r' := fun ad e _ => by
            cases e
            show pb ≠ r'
            have := hrx.out
            have := HGR.out
            omega
          have hcp : Hid ((xs.take q).length + ps.length ≤ 1152921504606846976) := by
            show _ ≤ _
            rw [List.length_take]
            have := HX.out
            omega
          have z5 := hB5.size
          have zx := hX5.lt
          go_wp2_with (go_at_call 13; go_loud (refine (Write_any _ _ _ _ _ _ _ hcp.out hpw hne' hX5).mono ?_); rintro e w6 ⟨rfl, -, hg6⟩)
          go_roundw
          case rel =>
            have := hrx.out
            have := HGR.out
            exact ⟨q, j + 1, hm1, by omega, rfl, by go_num, hS5.grown hg6 (by intro e; injection e with e; omega), hB5.grown hg6 (by omega) (by intro i e; injection e with e; omega)⟩
          case measure => simp [intOf]; omega
      · have hc1 : (j : Int) < n' := by omega
        have hc2 : ¬ (k : Int) < n := by omega
        have hT : Hid (xs.take k ++ xs.drop k = xs) := List.take_append_drop ..
        have hne : ∀ ad, Option.map (fun x : Addr => x.add k) a = some ad → 0 < cap - k → ad.block ≠ r := fun ad e h0 => by
          obtain ⟨b1, o1, rfl, hb1, -⟩ := hr.mem (by omega)
          rw [hg] at hb1
          cases e
          show ((⟨b1, o1, none⟩ : Addr).add k).block ≠ r
          rw [Addr.add_mid]
          show b1 ≠ r
          omega
        have hrd := rd_dropM hr' k hk
        have hrdB : cap = k → Rd wr a (n - k) 0 (xs.drop k) := fun e => by
          have h5 := hr'.le
          have h6 := hr'.len
          exact ⟨by simp; omega, by omega, fun _ => rfl, fun h => by omega⟩
        have HC : Hid ((xs.take k).length + (xs.drop k).length ≤ 1152921504606846976) := by
          show _ ≤ _
          have := HX.out
          simp only [List.length_take, List.length_drop]
          omega
        have hlen := hr'.len
        have hle := hr'.le
        have hn40 : n + n' ≤ 562949953421312 := by have := HX.out; have := hp'.len; omega
        have HLN := Lib.hid hlen
        have hln : (xs.length : Int) = (n : Int) := by omega
        obtain ⟨S, hSd⟩ : ∃ S, S = shaL xs := ⟨_, rfl⟩
        have hSl : S.length = 32 := by rw [hSd]; exact shaL_len _
        have hqs : xs.length ≤ 576460752303423488 := by omega
        have K1 : Hid (∀ r w, St w r xs → Calls Try.prog 15 #[.pointer (some ⟨r, 0, none⟩)] w fun e w' => e = .returned (.agg (bvs S).toArray) ∧ Below w.heap.size w w') := fun r w h => by rw [hSd]; exact Sum_any r _ w hqs h
        have K2 : Hid (∀ w, Rd w a n cap xs → Calls Try.prog 9 #[.slice a n cap] w fun e w' => e = .returned (.agg (bvs S).toArray) ∧ Below w.heap.size w w') := fun w h => by rw [hSd]; exact shaSum_any _ _ _ _ w hqs h
        have heql : ∀ W, (binOp .eql 24 (.agg (bvs S).toArray) (.agg (bvs S).toArray)).run Try.prog W = .ok (.bool true) W := fun W => by rw [eqD hSl hSl]; simp
        clear hSd hSl hqs hlen
        go_upto_region 15 with fail
        clear hr' hp'
        go_upto_region 16 with fail
        case' inl => (have hck : cap = k := (by assumption); have h5 := hrdB hck; subst hck; go_at_call 13; refine (Write_any r _ _ a _ 0 wr HC.out h5 (fun _ _ h => absurd h (Nat.lt_irrefl 0)) hS).mono ?_; rintro e w3 ⟨rfl, hS3, hg3⟩; rw [hT.out] at hS3; have y3 := hS3.lt; have hB3 : Below g w w3 := hb.grown hg3 (by omega) (by intro i e; injection e with e; omega); have hr3 := hr.to (hg ▸ hB3))
        case' inr => (go_at_call 13; refine (Write_any r (xs.take k) (xs.drop k) (Option.map (fun x : Addr => x.add k) a) (n - k) (cap - k) wr HC.out hrd hne hS).mono ?_; rintro e w3 ⟨rfl, hS3, hg3⟩; rw [hT.out] at hS3; have y3 := hS3.lt; have hB3 : Below g w w3 := hb.grown hg3 (by omega) (by intro i e; injection e with e; omega); have hr3 := hr.to (hg ▸ hB3))
        all_goals (
          go_upto_region 99 with (first
            | (go_at_call 15; go_loud (refine (K1.out _ _ hS3).mono ?_); rintro e w4 ⟨rfl, hb4⟩; have hr4 := hr3.to hb4; have hS4 := hS3.kept hb4; have hB4 := hB3.trans (hb4.mono (by omega)))
            | (go_at_call 9; go_loud (refine (K2.out _ hr4).mono ?_); rintro e w5 ⟨rfl, hb5⟩; have hS5 := hS4.kept hb5; have y4 := hS4.lt; have hB5 := hB4.trans (hb5.mono (by omega)))
            | (go_at_call 14; go_loud (refine (Len_any _ _ _ hS5).mono ?_); rintro e w6 ⟨rfl, rfl⟩))
          go_ret
          exact ⟨rfl, hg ▸ hB5⟩)
    · have hc1 : ¬ (j : Int) < n' := by omega
      have hT : Hid (xs.take k ++ xs.drop k = xs) := List.take_append_drop ..
      have hne : ∀ ad, Option.map (fun x : Addr => x.add k) a = some ad → 0 < cap - k → ad.block ≠ r := fun ad e h0 => by
        obtain ⟨b1, o1, rfl, hb1, -⟩ := hr.mem (by omega)
        rw [hg] at hb1
        cases e
        show ((⟨b1, o1, none⟩ : Addr).add k).block ≠ r
        rw [Addr.add_mid]
        show b1 ≠ r
        omega
      have hrd := rd_dropM hr' k hk
      have hrdB : cap = k → Rd wr a (n - k) 0 (xs.drop k) := fun e => by
        have h5 := hr'.le
        have h6 := hr'.len
        exact ⟨by simp; omega, by omega, fun _ => rfl, fun h => by omega⟩
      have HC : Hid ((xs.take k).length + (xs.drop k).length ≤ 1152921504606846976) := by
        show _ ≤ _
        have := HX.out
        simp only [List.length_take, List.length_drop]
        omega
      have hlen := hr'.len
      have hle := hr'.le
      have hn40 : n + n' ≤ 562949953421312 := by have := HX.out; have := hp'.len; omega
      have HLN := Lib.hid hlen
      have hln : (xs.length : Int) = (n : Int) := by omega
      obtain ⟨S, hSd⟩ : ∃ S, S = shaL xs := ⟨_, rfl⟩
      have hSl : S.length = 32 := by rw [hSd]; exact shaL_len _
      have hqs : xs.length ≤ 576460752303423488 := by omega
      have K1 : Hid (∀ r w, St w r xs → Calls Try.prog 15 #[.pointer (some ⟨r, 0, none⟩)] w fun e w' => e = .returned (.agg (bvs S).toArray) ∧ Below w.heap.size w w') := fun r w h => by rw [hSd]; exact Sum_any r _ w hqs h
      have K2 : Hid (∀ w, Rd w a n cap xs → Calls Try.prog 9 #[.slice a n cap] w fun e w' => e = .returned (.agg (bvs S).toArray) ∧ Below w.heap.size w w') := fun w h => by rw [hSd]; exact shaSum_any _ _ _ _ w hqs h
      have heql : ∀ W, (binOp .eql 24 (.agg (bvs S).toArray) (.agg (bvs S).toArray)).run Try.prog W = .ok (.bool true) W := fun W => by rw [eqD hSl hSl]; simp
      clear hSd hSl hqs hlen
      go_upto_region 15 with fail
      clear hr' hp'
      go_upto_region 16 with fail
      case' inl => (have hck : cap = k := (by assumption); have h5 := hrdB hck; subst hck; go_at_call 13; refine (Write_any r _ _ a _ 0 wr HC.out h5 (fun _ _ h => absurd h (Nat.lt_irrefl 0)) hS).mono ?_; rintro e w3 ⟨rfl, hS3, hg3⟩; rw [hT.out] at hS3; have y3 := hS3.lt; have hB3 : Below g w w3 := hb.grown hg3 (by omega) (by intro i e; injection e with e; omega); have hr3 := hr.to (hg ▸ hB3))
      case' inr => (go_at_call 13; refine (Write_any r (xs.take k) (xs.drop k) (Option.map (fun x : Addr => x.add k) a) (n - k) (cap - k) wr HC.out hrd hne hS).mono ?_; rintro e w3 ⟨rfl, hS3, hg3⟩; rw [hT.out] at hS3; have y3 := hS3.lt; have hB3 : Below g w w3 := hb.grown hg3 (by omega) (by intro i e; injection e with e; omega); have hr3 := hr.to (hg ▸ hB3))
      all_goals (
        go_upto_region 99 with (first
          | (go_at_call 15; go_loud (refine (K1.out _ _ hS3).mono ?_); rintro e w4 ⟨rfl, hb4⟩; have hr4 := hr3.to hb4; have hS4 := hS3.kept hb4; have hB4 := hB3.trans (hb4.mono (by omega)))
          | (go_at_call 9; go_loud (refine (K2.out _ hr4).mono ?_); rintro e w5 ⟨rfl, hb5⟩; have hS5 := hS4.kept hb5; have y4 := hS4.lt; have hB5 := hB4.trans (hb5.mono (by omega)))
          | (go_at_call 14; go_loud (refine (Len_any _ _ _ hS5).mono ?_); rintro e w6 ⟨rfl, rfl⟩))
        go_ret
        exact ⟨rfl, hg ▸ hB5⟩)

theorem shaParts_contract (H : Type) (enc : TypeId × Value → H) (W : World) (base : Nat) (args : Array Value) (ds gs : List (DataW H)) (before : List MemPlace)
    (hval : ∀ (j : Nat) t v, Try.f6.params[j]? = some t → args[j]? = some v → Value.okWide Try.prog W .any base t v)
    (hW : DataW.Whole enc Try.prog Try.f6.params.toList Rows.shaPartsSpec.vars false W args.toList ds gs before) (hk : Rows.uptoSmall H (ds ++ gs) = true) :
    Calls Try.prog 6 args W fun e W' => ∃ v, e = .returned v ∧ Rows.shaPartsSpec.post enc Try.prog Try.f6 false true false false W args v W' := by
  have hW' := hW
  obtain ⟨p, q, hA0, hV, rfl, _, _⟩ := hW
  have hA : DataW.TrodAll enc Try.prog W 0 (fun _ => true) true Try.f6.params.toList args.toList ds p := hA0
  have hval' := hval
  rw [Try.params6] at hA hval'
  obtain ⟨v0, v1, d0, d1, p0, p1, hargs, rfl, rfl, h0, h1⟩ := trodAll_two hA
  obtain rfl : args = #[v0, v1] := by cases args; simp_all
  obtain ⟨rfl, rfl⟩ := trodVars_none hV
  obtain ⟨a, n, cap, xs, rfl, hr, hn⟩ := rd_of_trod bt cells1 (hval' 0 22 v0 rfl rfl) h0 (fun _ => rfl)
  obtain ⟨a', n', cap', ps, rfl, hp, hn'⟩ := rd_of_trod bt cells1 (hval' 1 22 v1 rfl rfl) h1 (fun _ => rfl)
  have hb := bulk_bound hk
  simp only [List.append_nil, Rows.uptoBulkAll] at hb
  have hl := hr.len
  have hl' := hp.len
  refine (Parts_any xs ps a a' n n' cap cap' W (by omega) hr hp).mono fun e W' ⟨he, hw⟩ => ?_
  subst he
  exact ⟨_, rfl, law_post laidOuts (by kernel_rfl) rfl Try.underlying4 rfl hW' hw rfl⟩

set_option maxRecDepth 100000 in
theorem shaParts_lifted (os : Os) (started : os.Started) (H : Type) (enc : TypeId × Value → H) (F : Stop.Interp) :
    ReturnsInHanded {} Try.checked os 6 .any ((Rows.OpenSpec.upto Rows.shaPartsSpec).pre6 enc Try.prog Try.f6 Rows.shaPartsUptoRow.domain false) (((Rows.OpenSpec.upto Rows.shaPartsSpec).at F).post enc Try.prog Try.f6 false true false false) := by
  refine returnsInHanded_of_cond (C := Try.checked) (s := Rows.OpenSpec.upto Rows.shaPartsSpec) (k := Rows.uptoSmall) rfl ownKnobs started (by kernel_rfl) Try.func6
    (OpenSpec.witness (enc := enc) (C := Try.checked) (s := Rows.OpenSpec.upto Rows.shaPartsSpec) (k := Rows.uptoSmall) rfl false ⟨#[], #[.slice none 0 0, .slice none 0 0], []⟩ 8 (by kernel_rfl) (by kernel_rfl) (by kernel_rfl)
      (x := ([.nil, .nil], [], [])) (by kernel_rfl) rfl (by kernel_rfl)) ?_
  intro W base args ds gs before hval hW _ hk _
  exact shaParts_contract H enc W base args ds gs before hval hW hk

theorem shaParts_proved : Rows.ShaPartsUptoSaid :=
  OpenClaim.holds_of_cond 6 Try.f6 rfl rfl rfl rfl rfl rfl rfl ⟨rfl, rfl, rfl, rfl, rfl⟩ rfl rfl rfl rfl rfl (by kernel_rfl) Try.func6 (by kernel_rfl)
    (of_decide_eq_true (by kernel_rfl)) (by unfold Func.isWrapper; first | (rw [if_pos (by decide +kernel)]; kernel_rfl) | (rw [if_neg (by decide +kernel)]; exact ⟨rfl, rfl⟩))
    (fun os started H enc _ F => shaParts_lifted os started H enc F)
end Go.Proofs.Ytgippimoklefnaa
