/-
  'append(s, make([]byte, k)...)' onto a byte slice of the call's own: the compiler hands over the number k alone. No dump is imported.
-/
import Derived.Test.YtehceapephgbpaaOwn
import Derived.Lib.AppendZerosOnto
namespace Go.Proofs.Ytehceapephgbpaa
open Go.RowKit

theorem zeroCells_u8 (k : Nat) : Builtin.zeroCells #[Value.int .u8 0] k = (List.replicate k (Value.int .u8 0)).toArray := by
  apply Array.ext
  · simp [Builtin.zeroCells]
  · intro i h1 h2
    simp [Builtin.zeroCells]
    rw [Nat.mod_one]
    rfl
theorem map_zeros (k : Nat) : (List.replicate k (0#8 : Byte)).map B8 = List.replicate k (Value.int .u8 0) := by
  rw [List.map_replicate]; rfl

section
variable {P : Program} (w : World)

theorem run_room_zeros {ty : TypeId} (t tn e : TypeId) (i : TypeInfo) (kq kn : IntKind) (ht : P.underlying t = some (.slice e)) (htn : P.underlying tn = some (.int kn)) (hi : P.info? e = some i) (hz : i.zero = some (.int .u8 0))
    (h1 : i.size = 1) (h2 : i.bytes = 1) (g sLen sCap : Nat) (cur : Array Value) (hg : w.heap[g]? = some (.cells cur e (0, 0))) (k : Nat) (hk : k ≤ 140737488355328)
    (hroom : sLen + k ≤ sCap) (hfit : sLen + k ≤ cur.size) :
    (Builtin.append_ #[t, tn] ty #[.slice (some ⟨g, 0, none⟩) sLen sCap, .int kq k]).run P w =
      .ok (.slice (some ⟨g, 0, none⟩) (sLen + k) sCap) (w.setRow g (cur.toList.take sLen ++ List.replicate k (Value.int .u8 0) ++ cur.toList.drop (sLen + k)).toArray) := by
  have hst := run_storeCells_at P g sLen e (List.replicate k (Value.int .u8 0)) 0 cur w hg (by simpa using hfit) (by simp [Value.oneCell'])
  simp only [Nat.add_zero, List.length_replicate] at hst
  have hw : IntKind.i64.wrap (k : Int) = k := by rw [IntKind.wrap_i64]; omega
  have hneg : ¬ ((k : Int) < 0) := by omega
  have h48i : ¬ (281474976710656 < (k : Int)) := by omega
  have hcells : (Value.int IntKind.u8 0).cells = #[Value.int .u8 0] := rfl
  by_cases h0 : k = 0
  · subst h0
    have hw0 : IntKind.i64.wrap (0 : Int) = 0 := hw
    simp only [List.replicate_zero, Nat.add_zero, List.append_nil, List.take_append_drop, Array.toArray_toList] at hst ⊢
    have hroom' : sLen ≤ sCap := hroom
    simp [Builtin.append_, run_underlying ht, run_underlying htn, sizeOf, typeInfo, zeroValue, hi, hz, h1, h2, asInt, asIntOf, hw0, hroom', Addr.add_lit, hst]
  · simp [Builtin.append_, run_underlying ht, run_underlying htn, sizeOf, typeInfo, zeroValue, hi, hz, h1, h2, asInt, asIntOf, hw, hneg, h48i, h0, hroom, Addr.add_lit, hcells, zeroCells_u8, hst]

theorem run_app_zeros {t tn e ty : TypeId} {kq kn : IntKind} (hT : IsBytes P t e) (htn : P.underlying tn = some (.int kn)) {base : Nat} {v : Value} {m : List Byte} (hown : Ow w base e v m)
    {k : Nat} (h47 : m.length + k ≤ 140737488355328) (hbase : base ≤ w.heap.size) :
    ∃ v' w', (Builtin.append_ #[t, tn] ty #[v, .int kq k]).run P w = .ok v' w' ∧ Ow w' base e v' (m ++ List.replicate k 0#8) ∧ w.grownBy w' v.ownBlock := by
  obtain ⟨ht, _, i, hi, hz, h1, h2⟩ := hT
  have hcells : (Value.int IntKind.u8 0).cells = #[Value.int .u8 0] := rfl
  have hlen : (m ++ List.replicate k (0#8 : Byte)).length = m.length + k := by simp
  have hmap : (m ++ List.replicate k (0#8 : Byte)).map B8 = m.map B8 ++ List.replicate k (Value.int .u8 0) := by rw [List.map_append, map_zeros]
  have hsize : ∀ (z : Array Value) (n : Nat), (Builtin.zeroCells z n).size = n * z.size := size_zeroCells
  -- a new row
  have grown : ∀ (old : Nat) (row : Option Nat),
      Ow (w.drew.alloc (.cells ((m.map B8).toArray ++ Builtin.zeroCells #[Value.int .u8 0] k ++ Builtin.zeroCells #[Value.int .u8 0] (grownCap w (m.length + k) old e - (m.length + k))) e)) base e
        (.slice (some ⟨w.heap.size, 0, none⟩) (m.length + k) (grownCap w (m.length + k) old e)) (m ++ List.replicate k 0#8) ∧
      w.grownBy (w.drew.alloc (.cells ((m.map B8).toArray ++ Builtin.zeroCells #[Value.int .u8 0] k ++ Builtin.zeroCells #[Value.int .u8 0] (grownCap w (m.length + k) old e - (m.length + k))) e)) row := by
    intro old row
    have hge := grownCap_ge w (m.length + k) old e
    have hcm : grownCap w (m.length + k) old e ≤ maxLen := grownCap_le_maxLen w (m.length + k) old e (by unfold maxLen; omega)
    refine ⟨?_, ⟨rfl, rfl, rfl, by simp, fun j hj _ => heap_alloc_old w.drew _ hj⟩⟩
    unfold Ow
    rw [hlen, hmap]
    refine ⟨by simp, .inr ⟨w.heap.size, _, _, rfl, hbase, heap_alloc_new w.drew _, hge, hcm, ?_, ?_⟩⟩
    · simp only [Array.size_append, List.size_toArray, hsize, List.length_map]
      show m.length + k * 1 + (grownCap w (m.length + k) old e - (m.length + k)) * 1 = _
      omega
    · rw [zeroCells_u8 k]
      simp only [Array.toList_append, List.append_assoc]
      rw [← List.append_assoc, show (m.length + k) * 1 = (m.map B8 ++ List.replicate k (Value.int .u8 0)).length by simp]
      exact List.take_left
  rcases hown.2 with ⟨rfl, h0⟩ | ⟨g, cap, cur, rfl, hbg, hg, hnc, hcm, hcs, htake⟩
  · have hm : m = [] := List.eq_nil_of_length_eq_zero h0
    subst hm
    by_cases hk : k = 0
    · subst hk
      refine ⟨.slice none 0 0, w, ?_, World.ownsRow_nil w base e 1, World.grownBy.refl w _⟩
      have hw0 : IntKind.i64.wrap (0 : Int) = 0 := by rw [IntKind.wrap_i64]; omega
      simp [Builtin.append_, run_underlying ht, run_underlying htn, sizeOf, typeInfo, zeroValue, hi, hz, h2, asInt, asIntOf, hw0]
    · have hr := Lib.run_append_nil_zeros (P := P) w t tn ty e i (.int .u8 0) kq kn ht htn hi hz k (by omega) (by omega) (by simp at h47; omega) (by rw [h2]; simp at h47; omega)
      have hgr := grown 0 (Value.ownBlock (.slice none 0 0))
      simp only [List.length_nil, Nat.zero_add, List.map_nil, List.nil_append, Array.empty_append] at hgr ⊢
      exact ⟨_, _, hr, hgr.1, hgr.2⟩
  · by_cases hroom : m.length + k ≤ cap
    · have hr := run_room_zeros (P := P) (ty := ty) w t tn e i kq kn ht htn hi hz h1 h2 g m.length cap cur hg k (by omega) hroom (by omega)
      refine ⟨_, _, hr, ?_, ⟨rfl, rfl, rfl, by simp, fun j _ hj => setRow_other w g j _ (fun e => hj (by simp [Value.ownBlock, e]))⟩⟩
      unfold Ow
      rw [hlen, hmap]
      refine ⟨by simp, .inr ⟨g, cap, _, rfl, hbg, setRow_heap w g cur _ e _ hg, hroom, hcm, ?_, ?_⟩⟩
      · simp only [List.size_toArray, List.length_append, List.length_take, List.length_drop, Array.length_toList, List.length_replicate]
        omega
      · rw [Nat.mul_one] at htake
        rw [htake, show (m.length + k) * 1 = (m.map B8 ++ List.replicate k (Value.int .u8 0)).length by simp]
        exact List.take_left
    · have holds : ∀ j u, (m.map B8)[j]? = some u → w.cell? ((⟨g, 0, none⟩ : Addr).add j) = some u := World.ownsRow.cells hown (g := g) rfl
      have hold := run_firstCells_some (P := P) w.drew i.size m.length ⟨g, 0, none⟩ m.length cap (m.map B8) (by simp [h1]) (by simpa using holds)
      have hr := Lib.run_append_grow_zeros (P := P) w t tn ty e i (.int .u8 0) kq kn ht htn hi hz (some ⟨g, 0, none⟩) m.length cap (m.map B8) hold k (by omega) (by omega) (by omega) (by omega) (by rw [h2]; omega) (growslice_fits (by omega) (by rw [h2]; omega))
      have hgr := grown cap (Value.ownBlock (.slice (some ⟨g, 0, none⟩) m.length cap))
      exact ⟨_, _, hr, hgr.1, hgr.2⟩

theorem wpList_app_zeros {t tn e : TypeId} {kq kn : IntKind} (hT : IsBytes P t e) (htn : P.underlying tn = some (.int kn)) {ops : Array Oper} {rest : List Oper} {o : Oper} {a : Act} {Q : Exit → Act → World → Prop} (hgd : o.guard = none) (s x : Operand)
    (ho : o.op = .call { callee := .builtin .append, args := #[s, x], argTypes := #[t, tn] })
    {base : Nat} {v : Value} {m : List Byte} (hs : a.eval s = v) (hown : Ow w base e v m)
    {k : Nat} (hx : a.eval x = .int kq k) (h47 : m.length + k ≤ 140737488355328) (hbase : base ≤ w.heap.size)
    (h : ∀ v' w', Ow w' base e v' (m ++ List.replicate k 0#8) → w.grownBy w' v.ownBlock → wpList P ops Q rest (a.put o.dst v') w') : wpList P ops Q (o :: rest) a w := by
  obtain ⟨v', w', hr, h2, h3⟩ := run_app_zeros (P := P) (ty := o.type) (kq := kq) w hT htn hown (k := k) h47 hbase
  exact Lib.wpList_append_run w hgd s x t tn ho _ _ hs hx v' w' hr (h v' w' h2 h3)
end
end Go.Proofs.Ytehceapephgbpaa
