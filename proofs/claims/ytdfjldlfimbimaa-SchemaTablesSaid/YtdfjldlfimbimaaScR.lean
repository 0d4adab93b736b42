/- schema: all types, sorted. -/
import Derived.Test.YtdfjldlfimbimaaScQ
import Derived.Test.YtdfjldlfimbimaaIxO
import Derived.Shelf.SlIter.Sorted
import Derived.Shelf.SortG.SortNone
namespace Go.Proofs.Ytdfjldlfimbimaa
open Go.RowKit Go.Maps
set_option maxRecDepth 100000

/-- A kind, read as if it were nothing: of the table only the keys are asked. -/
def kindElem : Value → Option (DataW Unit × List MemPlace) := fun _ => some (.agg [], [])
abbrev SetK (w : World) (b n : Nat) (D : DataW Unit) : Prop := w.ownsMap Try.prog 9 kindElem b n D
/-- A map's keys, sorted. -/
def SortedK : Prop := ∀ {w : World} {b n : Nat} {D : DataW Unit} {L : Tx}, n ≤ 100000 → SetK w b n D → IsSet D L →
  Calls Try.prog 18 #[.map (some b)] w fun e w' => ∃ f, e = .returned f ∧ Ext w w' ∧
    Calls Try.prog 17 #[f] w' fun e w'' => ∃ u G, e = .returned u ∧ OwnT w'' u G ∧ Fresh w.heap.size u ∧ riseT G ∧ (∀ x, x ∈ G ↔ x ∈ L) ∧ Ext w w''

structure TkU (w0 w : World) (g n : Nat) (D : DataW Unit) (L : Tx) : Prop where
  m : SetK w (g + 1 + 1 + 1) n D
  s : IsSet D L
  c10 : w.cell? ⟨g, 0, none⟩ = some (.int .i64 1)
  c11 : w.cell? ⟨g, 1, none⟩ = some (.bool false)
  c20 : w.cell? ⟨g + 1, 0, none⟩ = some (.int .i64 2)
  c21 : w.cell? ⟨g + 1, 1, none⟩ = some (.bool true)
  c30 : w.cell? ⟨g + 1 + 1, 0, none⟩ = some (.int .i64 3)
  c31 : w.cell? ⟨g + 1 + 1, 1, none⟩ = some (.bool false)
  x : Mod (fun k => k = g + 1 + 1 + 1) w0 w
theorem TkU.next {w0 w w' : World} {g n : Nat} {D : DataW Unit} {L : Tx} {x : List UInt8} (h : TkU w0 w g n D L) (hM : SetK w' (g + 1 + 1 + 1) (n + 1) (D.put (.string x) (.agg []))) (hg : w.grownBy w' (some (g + 1 + 1 + 1))) : TkU w0 w' g (n + 1) (D.put (.string x) (.agg [])) (L ++ [x]) := by
  have hl := h.m.lt
  have hm : Mod (fun k => k = g + 1 + 1 + 1) w w' := Mod.of_grown hg (fun b hb => by injection hb with hb; exact hb.symm)
  refine ⟨hM, h.s.put x, ?_, ?_, ?_, ?_, ?_, ?_, h.x.then_ hm fun _ _ h => h⟩
  · rw [hm.cell (by show g < _; omega) (by show ¬ g = _; omega)]; exact h.c10
  · rw [hm.cell (by show g < _; omega) (by show ¬ g = _; omega)]; exact h.c11
  · rw [hm.cell (by show g + 1 < _; omega) (by show ¬ g + 1 = _; omega)]; exact h.c20
  · rw [hm.cell (by show g + 1 < _; omega) (by show ¬ g + 1 = _; omega)]; exact h.c21
  · rw [hm.cell (by show g + 1 + 1 < _; omega) (by show ¬ g + 1 + 1 = _; omega)]; exact h.c30
  · rw [hm.cell (by show g + 1 + 1 < _; omega) (by show ¬ g + 1 + 1 = _; omega)]; exact h.c31
def tyNames : Tx := [[111, 98, 106, 101, 99, 116, 99, 108, 97, 115, 115], [99, 110], [115, 110], [111, 117], [111], [100, 99], [117, 105, 100], [109, 97, 105, 108], [100, 101, 115, 99, 114, 105, 112, 116, 105, 111, 110], [116, 105, 116, 108, 101], [108], [116, 101, 108, 101, 112, 104, 111, 110, 101, 110, 117, 109, 98, 101, 114], [117, 105, 100, 110, 117, 109, 98, 101, 114], [103, 105, 100, 110, 117, 109, 98, 101, 114], [109, 101, 109, 98, 101, 114], [109, 97, 110, 97, 103, 101, 114], [115, 101, 101, 97, 108, 115, 111], [117, 115, 101, 114, 112, 97, 115, 115, 119, 111, 114, 100], [100, 105, 115, 112, 108, 97, 121, 110, 97, 109, 101]]
section
variable {w : World}
set_option maxHeartbeats 16000000 in
theorem typesU_any : Calls Try.prog 19 #[] w fun e w' => ∃ b D, e = .returned (.map (some b)) ∧ SetK w' b 19 D ∧ IsSet D tyNames ∧ Ext w w' := by
  have hmm := @run_makeMap Try.prog
  have hT0 : TkU ((((w.alloc (.cells #[.int .i64 1, .bool false] 51)).alloc (.cells #[.int .i64 2, .bool true] 51)).alloc (.cells #[.int .i64 3, .bool false] 51)).alloc (.map #[] 0)) ((((w.alloc (.cells #[.int .i64 1, .bool false] 51)).alloc (.cells #[.int .i64 2, .bool true] 51)).alloc (.cells #[.int .i64 3, .bool false] 51)).alloc (.map #[] 0)) w.heap.size 0 (.map []) [] := by
    obtain ⟨a, ha⟩ : ∃ a, a = w.alloc (.cells #[.int .i64 1, .bool false] 51) := ⟨_, rfl⟩
    have b1 : Blk a w.heap.size 51 #[.int .i64 1, .bool false] := by rw [ha]; exact Blk.new w _ _
    have s1 : a.heap.size = w.heap.size + 1 := by rw [ha]; simp
    rw [← ha]
    obtain ⟨c, hc⟩ : ∃ c, c = a.alloc (.cells #[.int .i64 2, .bool true] 51) := ⟨_, rfl⟩
    have b2' : Blk c (w.heap.size + 1) 51 #[.int .i64 2, .bool true] := by rw [hc, ← s1]; exact Blk.new a _ _
    have b1c : Blk c w.heap.size 51 #[.int .i64 1, .bool false] := by rw [hc]; exact b1.alloc _
    have s2 : c.heap.size = w.heap.size + 1 + 1 := by rw [hc, ← s1]; simp
    rw [← hc]
    obtain ⟨d, hd⟩ : ∃ d, d = c.alloc (.cells #[.int .i64 3, .bool false] 51) := ⟨_, rfl⟩
    have b3' : Blk d (w.heap.size + 1 + 1) 51 #[.int .i64 3, .bool false] := by rw [hd, ← s2]; exact Blk.new c _ _
    have b1d : Blk d w.heap.size 51 #[.int .i64 1, .bool false] := by rw [hd]; exact b1c.alloc _
    have b2d : Blk d (w.heap.size + 1) 51 #[.int .i64 2, .bool true] := by rw [hd]; exact b2'.alloc _
    have s3 : d.heap.size = w.heap.size + 1 + 1 + 1 := by rw [hd, ← s2]; simp
    rw [← hd]
    have hm0 : SetK (d.alloc (.map #[] 0)) d.heap.size 0 (.map []) := World.ownsMap_made _ _ _ _
    rw [s3] at hm0
    refine ⟨hm0, isSet_none, (b1d.alloc _).cell 0, (b1d.alloc _).cell 1, (b2d.alloc _).cell 0, (b2d.alloc _).cell 1, (b3'.alloc _).cell 0, (b3'.alloc _).cell 1, Mod.refl _ _⟩
  have hx0 : Ext w ((((w.alloc (.cells #[.int .i64 1, .bool false] 51)).alloc (.cells #[.int .i64 2, .bool true] 51)).alloc (.cells #[.int .i64 3, .bool false] 51)).alloc (.map #[] 0)) := (((Mod.refl _ w).alloc _).alloc _).alloc _ |>.alloc _
  replace hx0 := Lib.hid hx0
  go_enter Try.func19, Try.ntmps19
  go_wp2_with ((with_reducible show wpList _ _ _ (⟨none, Op.insert _ _ _ _, _, _, _, _⟩ :: _) _ _); refine wp_insU rfl _ _ _ 49 rfl 9 51 keyS Try.underlying49 kindElem _ _ _ rfl hT0.m (by unfold maxLen; omega) _ _ _ rfl rfl (keyOf_sv _ (by decide)) _ [] rfl ?_; intro w1 hM hm; replace hT0 := hT0.next hM hm; have c10 := hT0.c10; have c11 := hT0.c11; have c20 := hT0.c20; have c21 := hT0.c21; have c30 := hT0.c30; have c31 := hT0.c31; clear hM hm)
  go_ret
  exact ⟨_, _, rfl, hT0.m, hT0.s, Mod.trans hx0.out hT0.x (fun _ _ h => h) fun k hk h => by omega⟩
end
open Go.Shelf Go.Sort
def keysZ_ren : Go.Shelf.Ren := ⟨fun | 7 => 18 | 10 => 34 | n => n, fun | 23 => 49 | 26 => 9 | 3 => 51 | 28 => 47 | 0 => 0 | 27 => 46 | 33 => 25 | 4 => 4 | n => n, fun | n => n⟩
theorem keysZ : Go.Proofs.SlLaysZ.n7 Try.prog keysZ_ren := {
  mixed := by kernel_rfl
  f7 := ⟨Try.f18.name, by decide, Try.func18.trans (congrArg some (by kernel_rfl))⟩
  f10 := ⟨Try.f34.name, by decide, Try.func34.trans (congrArg some (by kernel_rfl))⟩
  t0 := Try.underlying0
  a0 := Try.isAgg0
  z0 := Try.sizeOf0
  v0 := Try.zeroValue0
  t4 := Try.underlying4
  a4 := Try.isAgg4
  z4 := Try.sizeOf4
  v4 := Try.zeroValue4
  t23 := Try.underlying49
  a23 := Try.isAgg49
  z23 := Try.sizeOf49
  v23 := Try.zeroValue49
  t26 := Try.underlying9
  a26 := Try.isAgg9
  z26 := Try.sizeOf9
  v26 := Try.zeroValue9
  t27 := Try.underlying46
  a27 := Try.isAgg46
  z27 := Try.sizeOf46
  v27 := Try.zeroValue46
  t28 := Try.underlying47
  a28 := Try.isAgg47
  z28 := Try.sizeOf47
  v28 := Try.zeroValue47
  t33 := Try.underlying25
  a33 := Try.isAgg25
  z33 := Try.sizeOf25
  v33 := Try.zeroValue25 }
def sortedZ_ren : Go.Shelf.Ren := ⟨fun | 6 => 17 | 8 => 32 | 9 => 33 | 11 => 37 | 13 => 39 | 12 => 38 | 23 => 49 | 24 => 50 | 14 => 40 | 15 => 41 | 16 => 42 | 17 => 43 | 18 => 44 | 19 => 45 | 20 => 46 | 21 => 47 | 22 => 48 | 25 => 51 | 26 => 52 | 27 => 53 | 28 => 54 | 29 => 55 | 30 => 56 | 31 => 57 | n => n, fun | 26 => 9 | 28 => 47 | 24 => 22 | 0 => 0 | 3 => 3 | 37 => 39 | 48 => 85 | 50 => 87 | 4 => 4 | 40 => 77 | 39 => 76 | 45 => 82 | 5 => 5 | 9 => 9 | 51 => 88 | 55 => 92 | 57 => 94 | 58 => 95 | 33 => 25 | n => n, fun | n => n⟩
theorem sortedZ : Go.Proofs.SlLaysZ.n6 Try.prog sortedZ_ren := {
  mixed := by kernel_rfl
  f6 := ⟨Try.f17.name, by decide, Try.func17.trans (congrArg some (by kernel_rfl))⟩
  f8 := ⟨Try.f32.name, by decide, Try.func32.trans (congrArg some (by kernel_rfl))⟩
  f11 := ⟨Try.f37.name, by decide, Try.func37.trans (congrArg some (by kernel_rfl))⟩
  t0 := Try.underlying0
  a0 := Try.isAgg0
  z0 := Try.sizeOf0
  v0 := Try.zeroValue0
  t24 := Try.underlying22
  a24 := Try.isAgg22
  z24 := Try.sizeOf22
  v24 := Try.zeroValue22
  t26 := Try.underlying9
  a26 := Try.isAgg9
  z26 := Try.sizeOf9
  v26 := Try.zeroValue9
  t28 := Try.underlying47
  a28 := Try.isAgg47
  z28 := Try.sizeOf47
  v28 := Try.zeroValue47
  i26 := by kernel_rfl }

theorem sortsZ (m : Nat) : AnyZ.SortsIn Try.prog sortedZ_ren Fence.wide m :=
  ⟨fun blk off cap ss W hH hblk hsz => callsIn_wide.2 (AnyG.slices_Sort_string sortT blk off cap ss W hH hblk hsz), fun p cap W => callsIn_wide.2 (AnyG.slices_Sort_string_none sortT p cap W)⟩
theorem nodup_of : ∀ (L : Tx), ∃ M : Tx, M.Nodup ∧ ∀ x, x ∈ M ↔ x ∈ L
  | [] => ⟨[], List.nodup_nil, fun _ => Iff.rfl⟩
  | y :: L => by
    obtain ⟨M, h1, h2⟩ := nodup_of L
    by_cases h : y ∈ M
    · exact ⟨M, h1, fun x => by rw [h2, List.mem_cons]; constructor
                                · exact .inr
                                · rintro (rfl | h3)
                                  · exact (h2 x).1 h
                                  · exact h3⟩
    · exact ⟨y :: M, List.nodup_cons.2 ⟨h, h1⟩, fun x => by rw [List.mem_cons, List.mem_cons, h2]⟩
theorem rise_of {L : Tx} (hn : L.Nodup) : riseT (L.mergeSort fun x y => decide (x ≤ y)) := by
  have h1 := List.pairwise_mergeSort (le := fun x y : List UInt8 => decide (x ≤ y)) (fun a b c h1 h2 => by simp only [decide_eq_true_eq] at *; exact List.le_trans h1 h2) (fun a b => by simp only [Bool.or_eq_true, decide_eq_true_eq]; exact List.le_total a b) L
  have h2 : (L.mergeSort fun x y => decide (x ≤ y)).Nodup := (List.mergeSort_perm L _).nodup_iff.2 hn
  refine (h1.and h2).imp fun {a b} h => ?_
  obtain ⟨h3, h4⟩ := h
  simp only [decide_eq_true_eq] at h3
  rw [bytesLess_eq, decide_eq_true_eq]
  by_cases h5 : a < b
  · exact h5
  · exact absurd (List.le_antisymm h3 (List.not_lt.1 h5)) h4
set_option maxHeartbeats 2000000 in
theorem sortedK_holds : SortedK := by
  intro w b n D L hn hown hset
  have hbl := hown.lt
  have hsz := hown.size_le
  have hseq : SeqGives Fence.wide 2 Try.prog 34 #[.pointer (some ⟨w.heap.size, 0, none⟩)] encStr (fun ss => ss.Perm (strKeys D)) (size D) (w.alloc (.cells #[.map (some b)] 49)) :=
    AnyZ.keys_gives (ρ := keysZ_ren) { keysZ with } Fence.wide _ trivial rfl (by omega) w.heap.size b n D _ (by simp) (by simp) (by
      obtain ⟨es, clock, hb, Ft, hs, hD⟩ := hown
      exact ⟨es, clock, (Below.heap_alloc _ _ b hbl).trans hb, Ft, hs, hD⟩)
  have cK : Calls Try.prog 18 #[.map (some b)] w fun e w' => e = .returned (.func (.func 34) #[] #[.pointer (some ⟨w.heap.size, 0, none⟩)]) ∧ w' = w.alloc (.cells #[.map (some b)] 49) := callsIn_wide.1 (AnyZ.keys_in keysZ Fence.wide 5 trivial rfl (some b) w)
  have cS := AnyZ.sorted_in sortedZ Fence.wide 5 trivial trivial trivial trivial rfl (by omega) (sortsZ _) (enters_of Try.func33 (by kernel_rfl) rfl) 34 #[.pointer (some ⟨w.heap.size, 0, none⟩)] trivial (enters_of Try.func34 (by kernel_rfl) rfl) _ (size D) (by unfold maxLen; omega) (by omega) _ hseq
  replace cS := callsIn_wide.1 cS
  change Calls Try.prog 17 _ _ _ at cS
  refine Calls.mono cK ?_
  rintro e w' ⟨rfl, rfl⟩
  refine ⟨_, rfl, (Mod.refl _ _).alloc _, ?_⟩
  refine Calls.mono cS ?_
  rintro e w'' ⟨v, ss, rfl, hS, hrow, hnil, hb⟩
  obtain ⟨M, hM1, hM2⟩ := nodup_of L
  have hC : Collected D (fun _ => false) M := ⟨hM1, fun x => by rw [hM2, hset.2]; simp⟩
  have hP : M.Perm (strKeys D) := hC.perm hown keyS Try.underlying9 (fun _ => rfl)
  have hQ : ss.Perm M := hS.trans hP.symm
  have hl : ss.length = ((ss.mergeSort fun x y => decide (x ≤ y)).map encStr).length := by rw [List.length_map, List.length_mergeSort]
  rw [hl] at hrow
  refine ⟨v, ss.mergeSort fun x y => decide (x ≤ y), rfl, ownsRow_base_a hrow (Nat.zero_le _), fun k hk => ?_, rise_of (hQ.nodup_iff.2 hM1), fun x => ?_, ((Mod.refl _ _).alloc _).trans (Mod.of_below hb) (fun _ _ h => h) (fun _ _ h => h)⟩
  · have := (World.ownsRow.lt hrow k hk).1
    simp at this
    omega
  · rw [(List.mergeSort_perm ss _).mem_iff, hQ.mem_iff, hM2]
end Go.Proofs.Ytdfjldlfimbimaa
