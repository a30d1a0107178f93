/-
  Package sha: the tables. No conditions.
-/
import Derived.Test.YtfidajbenmgflaaDoorShaA
import Derived.Test.YtfidajbenmgflaaDoorArr
import Derived.BigRegion
import Derived.BigQuiet
namespace Go.Proofs.YtfidajbenmgflaaDoor
open Go.RowKit

def qs (xs : List UInt32) : List Value := xs.map q
def bvs (xs : List UInt8) : List Value := xs.map bv
theorem qs_one (xs : List UInt32) : ∀ v ∈ qs xs, v.oneCell' = true := by
  intro v hv
  obtain ⟨x, _, rfl⟩ := List.mem_map.1 hv
  rfl
theorem bvs_one (xs : List UInt8) : ∀ v ∈ bvs xs, v.oneCell' = true := bv_oneCell
theorem qs_len (xs : List UInt32) : (qs xs).length = xs.length := by simp [qs]
theorem bvs_len (xs : List UInt8) : (bvs xs).length = xs.length := by simp [bvs]

def H0 : List UInt32 := [1779033703, 3144134277, 1013904242, 2773480762, 1359893119, 2600822924, 528734635, 1541459225]
def K64 : List UInt32 := [1116352408, 1899447441, 3049323471, 3921009573, 961987163, 1508970993, 2453635748, 2870763221, 3624381080, 310598401, 607225278, 1426881987, 1925078388, 2162078206, 2614888103, 3248222580, 3835390401, 4022224774, 264347078, 604807628, 770255983, 1249150122, 1555081692, 1996064986, 2554220882, 2821834349, 2952996808, 3210313671, 3336571891, 3584528711, 113926993, 338241895, 666307205, 773529912, 1294757372, 1396182291, 1695183700, 1986661051, 2177026350, 2456956037, 2730485921, 2820302411, 3259730800, 3345764771, 3516065817, 3600352804, 4094571909, 275423344, 430227734, 506948616, 659060556, 883997877, 958139571, 1322822218, 1537002063, 1747873779, 1955562222, 2024104815, 2227730452, 2361852424, 2428436474, 2756734187, 3204031479, 3329325298]
def Z (n : Nat) : List UInt32 := List.replicate n 0

theorem info8 : (Tryd.prog.info? 105).map (fun i => (i.zero, i.size)) = some (some (.agg (qs (Z 8)).toArray), 8) := by kernel_rfl
theorem info64 : (Tryd.prog.info? 132).map (fun i => (i.zero, i.size)) = some (some (.agg (qs (Z 64)).toArray), 64) := by kernel_rfl
theorem size8 : (Tryd.prog.info? 105).map (·.size) = some 8 := by kernel_rfl
theorem size64 : (Tryd.prog.info? 132).map (·.size) = some 64 := by kernel_rfl

/-- a function that hands a table back -/
def Tab (xs : List UInt32) (w : World) (e : Ending) (w' : World) : Prop := e = .returned (.agg (qs xs).toArray) ∧ Below w.heap.size w w'

theorem first_any (w : World) : Calls Tryd.prog 56 #[] w (Tab H0 w) := by
  go_enter Tryd.func56, Tryd.ntmps56
  go_wp2_with (first
    | ((with_reducible show wpList _ _ _ (⟨some 0, .alloc _, _, _, _, _⟩ :: _) _ _); refine wl_alloc rfl 105 rfl (qs (Z 8)) 8 info8 ?_; intro w1 hA1 hb1 hs1)
    | ((with_reducible show wpList _ _ _ (⟨none, .store _ _ _, _, _, _, _⟩ :: _) _ _); refine wl_store rfl 105 _ _ rfl w.heap.size 0 rfl (qs H0) rfl 105 _ hA1 (by rw [size8]; rfl) (by decide) (qs_one _) ?_; intro w2 hA2 hg2 hs2))
  refine end_cell rfl w.heap.size 105 (qs H0) (.array 8 104) rfl ?_ Tryd.underlying105 rfl (by rw [size8]; rfl) rfl ⟨rfl, hb1.grown hg2 (Nat.le_of_lt hs1) (by intro k e; cases e; exact Nat.le_refl _)⟩
  exact hA2


theorem rfirst_any (w : World) : Calls Tryd.prog 54 #[] w (Tab H0 w) := by
  go_enter Tryd.func54, Tryd.ntmps54
  go_wp2_with (first
    | ((with_reducible show wpList _ _ _ (⟨some 0, .alloc _, _, _, _, _⟩ :: _) _ _); refine wl_alloc rfl 105 rfl (qs (Z 8)) 8 info8 ?_; intro w1 hA1 hb1 hs1)
    | ((with_reducible show wpList _ _ _ (⟨none, .store _ _ _, _, _, _, _⟩ :: _) _ _); refine wl_store rfl 105 _ _ rfl w.heap.size 0 rfl (qs H0) rfl 105 _ hA1 (by rw [size8]; rfl) (by decide) (qs_one _) ?_; intro w2 hA2 hg2 hs2))
  refine end_cell rfl w.heap.size 105 (qs H0) (.array 8 104) rfl ?_ Tryd.underlying105 rfl (by rw [size8]; rfl) rfl ⟨rfl, hb1.grown hg2 (Nat.le_of_lt hs1) (by intro k e; cases e; exact Nat.le_refl _)⟩
  exact hA2

set_option maxRecDepth 100000 in
set_option maxHeartbeats 800000 in
theorem consts_any (w : World) : Calls Tryd.prog 81 #[] w (Tab K64 w) := by
  go_enter Tryd.func81, Tryd.ntmps81
  go_wp2_with (first
    | ((with_reducible show wpList _ _ _ (⟨some 0, .alloc _, _, _, _, _⟩ :: _) _ _); refine wl_alloc rfl 132 rfl (qs (Z 64)) 64 info64 ?_; intro w1 hA1 hb1 hs1)
    | ((with_reducible show wpList _ _ _ (⟨none, .store _ _ _, _, _, _, _⟩ :: _) _ _); refine wl_store rfl 132 _ _ rfl w.heap.size 0 rfl (qs K64) rfl 132 _ hA1 (by rw [size64]; rfl) (by decide) (qs_one _) ?_; intro w2 hA2 hg2 hs2))
  refine end_cell rfl w.heap.size 132 (qs K64) (.array 64 104) rfl ?_ Tryd.underlying132 rfl (by rw [size64]; rfl) rfl ⟨rfl, hb1.grown hg2 (Nat.le_of_lt hs1) (by intro k e; cases e; exact Nat.le_refl _)⟩
  exact hA2
set_option maxRecDepth 100000 in
set_option maxHeartbeats 800000 in
theorem rconsts_any (w : World) : Calls Tryd.prog 80 #[] w (Tab K64 w) := by
  go_enter Tryd.func80, Tryd.ntmps80
  go_wp2_with (first
    | ((with_reducible show wpList _ _ _ (⟨some 0, .alloc _, _, _, _, _⟩ :: _) _ _); refine wl_alloc rfl 132 rfl (qs (Z 64)) 64 info64 ?_; intro w1 hA1 hb1 hs1)
    | ((with_reducible show wpList _ _ _ (⟨none, .store _ _ _, _, _, _, _⟩ :: _) _ _); refine wl_store rfl 132 _ _ rfl w.heap.size 0 rfl (qs K64) rfl 132 _ hA1 (by rw [size64]; rfl) (by decide) (qs_one _) ?_; intro w2 hA2 hg2 hs2))
  refine end_cell rfl w.heap.size 132 (qs K64) (.array 64 104) rfl ?_ Tryd.underlying132 rfl (by rw [size64]; rfl) rfl ⟨rfl, hb1.grown hg2 (Nat.le_of_lt hs1) (by intro k e; cases e; exact Nat.le_refl _)⟩
  exact hA2
end Go.Proofs.YtfidajbenmgflaaDoor
