/- undercroftlaw.CacheSays: its state between acts. -/
import Derived.Test.YtehdddmpjimfhaaCsB
import Derived.Test.YtehdddmpjimfhaaTcB
namespace Go.Proofs.Ytehdddmpjimfhaa
open Go.ChangeShapes Go.WideShapes Go.ChangeAt Go.RowKit Go.Shelf
set_option maxRecDepth 1000000

theorem cs_rf1L (l : List Value) (hl : l.length = 251) (ds : List Nat) (w : World) (B b' q R Bm Bk base : Nat) (vm : Value) (es : List En) (x : Ac) (rv : Bool) (h2 : l.getD 2 undef = .pointer (some ⟨R, 0, none⟩)) (h5 : l.getD 5 undef = .pointer (some ⟨Bm, 0, none⟩)) (h7 : l.getD 7 undef = .pointer (some ⟨q, 0, none⟩)) (h19 : l.getD 19 undef = .pointer (some ⟨Bk, 0, none⟩)) (h197 : l.getD 197 undef = .func (.func 88) #[] #[.pointer (some ⟨B, 0, none⟩)])
    (hB : w.cell? ⟨B, 0, none⟩ = some (.pointer (some ⟨b', 0, none⟩))) (hC : CaL w b' es)
    (y2 : w.cell? ⟨q, 2, none⟩ = some (.int .i64 x.a)) (r0 : w.cell? ⟨R, 0, none⟩ = some (.bool rv)) (rz : w.frozen? ⟨R, 0, none⟩ = false)
    (pm : w.heap[Bm]? = some (.cells #[vm] 90)) (sm : SlC w base vm es) (hbk : w.heap[Bk]? = some (.cells #[.int .i64 0] 3))
    (n1 : R ≠ Bk) (n2 : Bm ≠ Bk) (n3 : q ≠ Bk) (n4 : b' ≠ Bk) (n5 : B ≠ Bk) (n6 : ∀ g, vm.ownBlock = some g → g ≠ Bk) {Q : Exit → Act → World → Prop}
    (hm : ∀ (D : Nat) (W : World), w.heap.size ≤ D → Upd (fun k => k = Bk) w W → W.heap[Bk]? = some (.cells #[.int .i64 (es.length : Nat)] 3) → W.heap[D]? = some (.deferred (some [])) → Q .normal ⟨l.toArray, marks (D :: ds)⟩ W)
    (hx : ∀ (D k : Nat) (W : World), w.heap.size ≤ D → k ≤ es.length → (k : Int) = x.a → Upd (fun k => k = Bk) w W → W.heap[Bk]? = some (.cells #[.int .i64 (k : Nat)] 3) → W.heap[D]? = some (.deferred (some [])) → Q (.exit 3) ⟨l.toArray, marks (D :: ds)⟩ W) :
    Code.wp Try.prog csRf1 Q ⟨l.toArray, marks ds⟩ w := by
  rw [frame_fn l, hl, show ((List.range 251).map (fun i => l.getD i undef)).toArray = #[l.getD 0 undef, l.getD 1 undef, l.getD 2 undef, l.getD 3 undef, l.getD 4 undef, l.getD 5 undef, l.getD 6 undef, l.getD 7 undef, l.getD 8 undef, l.getD 9 undef, l.getD 10 undef, l.getD 11 undef, l.getD 12 undef, l.getD 13 undef, l.getD 14 undef, l.getD 15 undef, l.getD 16 undef, l.getD 17 undef, l.getD 18 undef, l.getD 19 undef, l.getD 20 undef, l.getD 21 undef, l.getD 22 undef, l.getD 23 undef, l.getD 24 undef, l.getD 25 undef, l.getD 26 undef, l.getD 27 undef, l.getD 28 undef, l.getD 29 undef, l.getD 30 undef, l.getD 31 undef, l.getD 32 undef, l.getD 33 undef, l.getD 34 undef, l.getD 35 undef, l.getD 36 undef, l.getD 37 undef, l.getD 38 undef, l.getD 39 undef, l.getD 40 undef, l.getD 41 undef, l.getD 42 undef, l.getD 43 undef, l.getD 44 undef, l.getD 45 undef, l.getD 46 undef, l.getD 47 undef, l.getD 48 undef, l.getD 49 undef, l.getD 50 undef, l.getD 51 undef, l.getD 52 undef, l.getD 53 undef, l.getD 54 undef, l.getD 55 undef, l.getD 56 undef, l.getD 57 undef, l.getD 58 undef, l.getD 59 undef, l.getD 60 undef, l.getD 61 undef, l.getD 62 undef, l.getD 63 undef, l.getD 64 undef, l.getD 65 undef, l.getD 66 undef, l.getD 67 undef, l.getD 68 undef, l.getD 69 undef, l.getD 70 undef, l.getD 71 undef, l.getD 72 undef, l.getD 73 undef, l.getD 74 undef, l.getD 75 undef, l.getD 76 undef, l.getD 77 undef, l.getD 78 undef, l.getD 79 undef, l.getD 80 undef, l.getD 81 undef, l.getD 82 undef, l.getD 83 undef, l.getD 84 undef, l.getD 85 undef, l.getD 86 undef, l.getD 87 undef, l.getD 88 undef, l.getD 89 undef, l.getD 90 undef, l.getD 91 undef, l.getD 92 undef, l.getD 93 undef, l.getD 94 undef, l.getD 95 undef, l.getD 96 undef, l.getD 97 undef, l.getD 98 undef, l.getD 99 undef, l.getD 100 undef, l.getD 101 undef, l.getD 102 undef, l.getD 103 undef, l.getD 104 undef, l.getD 105 undef, l.getD 106 undef, l.getD 107 undef, l.getD 108 undef, l.getD 109 undef, l.getD 110 undef, l.getD 111 undef, l.getD 112 undef, l.getD 113 undef, l.getD 114 undef, l.getD 115 undef, l.getD 116 undef, l.getD 117 undef, l.getD 118 undef, l.getD 119 undef, l.getD 120 undef, l.getD 121 undef, l.getD 122 undef, l.getD 123 undef, l.getD 124 undef, l.getD 125 undef, l.getD 126 undef, l.getD 127 undef, l.getD 128 undef, l.getD 129 undef, l.getD 130 undef, l.getD 131 undef, l.getD 132 undef, l.getD 133 undef, l.getD 134 undef, l.getD 135 undef, l.getD 136 undef, l.getD 137 undef, l.getD 138 undef, l.getD 139 undef, l.getD 140 undef, l.getD 141 undef, l.getD 142 undef, l.getD 143 undef, l.getD 144 undef, l.getD 145 undef, l.getD 146 undef, l.getD 147 undef, l.getD 148 undef, l.getD 149 undef, l.getD 150 undef, l.getD 151 undef, l.getD 152 undef, l.getD 153 undef, l.getD 154 undef, l.getD 155 undef, l.getD 156 undef, l.getD 157 undef, l.getD 158 undef, l.getD 159 undef, l.getD 160 undef, l.getD 161 undef, l.getD 162 undef, l.getD 163 undef, l.getD 164 undef, l.getD 165 undef, l.getD 166 undef, l.getD 167 undef, l.getD 168 undef, l.getD 169 undef, l.getD 170 undef, l.getD 171 undef, l.getD 172 undef, l.getD 173 undef, l.getD 174 undef, l.getD 175 undef, l.getD 176 undef, l.getD 177 undef, l.getD 178 undef, l.getD 179 undef, l.getD 180 undef, l.getD 181 undef, l.getD 182 undef, l.getD 183 undef, l.getD 184 undef, l.getD 185 undef, l.getD 186 undef, l.getD 187 undef, l.getD 188 undef, l.getD 189 undef, l.getD 190 undef, l.getD 191 undef, l.getD 192 undef, l.getD 193 undef, l.getD 194 undef, l.getD 195 undef, l.getD 196 undef, l.getD 197 undef, l.getD 198 undef, l.getD 199 undef, l.getD 200 undef, l.getD 201 undef, l.getD 202 undef, l.getD 203 undef, l.getD 204 undef, l.getD 205 undef, l.getD 206 undef, l.getD 207 undef, l.getD 208 undef, l.getD 209 undef, l.getD 210 undef, l.getD 211 undef, l.getD 212 undef, l.getD 213 undef, l.getD 214 undef, l.getD 215 undef, l.getD 216 undef, l.getD 217 undef, l.getD 218 undef, l.getD 219 undef, l.getD 220 undef, l.getD 221 undef, l.getD 222 undef, l.getD 223 undef, l.getD 224 undef, l.getD 225 undef, l.getD 226 undef, l.getD 227 undef, l.getD 228 undef, l.getD 229 undef, l.getD 230 undef, l.getD 231 undef, l.getD 232 undef, l.getD 233 undef, l.getD 234 undef, l.getD 235 undef, l.getD 236 undef, l.getD 237 undef, l.getD 238 undef, l.getD 239 undef, l.getD 240 undef, l.getD 241 undef, l.getD 242 undef, l.getD 243 undef, l.getD 244 undef, l.getD 245 undef, l.getD 246 undef, l.getD 247 undef, l.getD 248 undef, l.getD 249 undef, l.getD 250 undef] from rfl] at hm hx ⊢
  rw [h2, h5, h7, h19, h197] at hm hx ⊢
  exact cs_rf1 (fun i => l.getD i undef) ds w B b' q R Bm Bk base vm es x rv hB hC y2 r0 rz pm sm hbk n1 n2 n3 n4 n5 n6 hm hx
theorem cs_rf2L (l : List Value) (hl : l.length = 251) (ds : List Nat) (w : World) (B b' Bo : Nat) (es : List En) (h24 : l.getD 24 undef = .pointer (some ⟨Bo, 0, none⟩)) (h241 : l.getD 241 undef = .func (.func 88) #[] #[.pointer (some ⟨B, 0, none⟩)])
    (hB : w.cell? ⟨B, 0, none⟩ = some (.pointer (some ⟨b', 0, none⟩))) (hC : CaL w b' es)
    (hbo : w.heap[Bo]? = some (.cells #[.slice none 0 0] 89)) (n1 : b' ≠ Bo) (n2 : B ≠ Bo) {Q : Exit → Act → World → Prop}
    (hm : ∀ (D : Nat) (W : World) (v : Value), w.heap.size ≤ D → Upd (fun k => k = Bo) w W → W.heap[Bo]? = some (.cells #[v] 89) → SlC W w.heap.size v es → W.heap[D]? = some (.deferred (some [])) → Q .normal ⟨l.toArray, marks (D :: ds)⟩ W) :
    Code.wp Try.prog csRf2 Q ⟨l.toArray, marks ds⟩ w := by
  rw [frame_fn l, hl, show ((List.range 251).map (fun i => l.getD i undef)).toArray = #[l.getD 0 undef, l.getD 1 undef, l.getD 2 undef, l.getD 3 undef, l.getD 4 undef, l.getD 5 undef, l.getD 6 undef, l.getD 7 undef, l.getD 8 undef, l.getD 9 undef, l.getD 10 undef, l.getD 11 undef, l.getD 12 undef, l.getD 13 undef, l.getD 14 undef, l.getD 15 undef, l.getD 16 undef, l.getD 17 undef, l.getD 18 undef, l.getD 19 undef, l.getD 20 undef, l.getD 21 undef, l.getD 22 undef, l.getD 23 undef, l.getD 24 undef, l.getD 25 undef, l.getD 26 undef, l.getD 27 undef, l.getD 28 undef, l.getD 29 undef, l.getD 30 undef, l.getD 31 undef, l.getD 32 undef, l.getD 33 undef, l.getD 34 undef, l.getD 35 undef, l.getD 36 undef, l.getD 37 undef, l.getD 38 undef, l.getD 39 undef, l.getD 40 undef, l.getD 41 undef, l.getD 42 undef, l.getD 43 undef, l.getD 44 undef, l.getD 45 undef, l.getD 46 undef, l.getD 47 undef, l.getD 48 undef, l.getD 49 undef, l.getD 50 undef, l.getD 51 undef, l.getD 52 undef, l.getD 53 undef, l.getD 54 undef, l.getD 55 undef, l.getD 56 undef, l.getD 57 undef, l.getD 58 undef, l.getD 59 undef, l.getD 60 undef, l.getD 61 undef, l.getD 62 undef, l.getD 63 undef, l.getD 64 undef, l.getD 65 undef, l.getD 66 undef, l.getD 67 undef, l.getD 68 undef, l.getD 69 undef, l.getD 70 undef, l.getD 71 undef, l.getD 72 undef, l.getD 73 undef, l.getD 74 undef, l.getD 75 undef, l.getD 76 undef, l.getD 77 undef, l.getD 78 undef, l.getD 79 undef, l.getD 80 undef, l.getD 81 undef, l.getD 82 undef, l.getD 83 undef, l.getD 84 undef, l.getD 85 undef, l.getD 86 undef, l.getD 87 undef, l.getD 88 undef, l.getD 89 undef, l.getD 90 undef, l.getD 91 undef, l.getD 92 undef, l.getD 93 undef, l.getD 94 undef, l.getD 95 undef, l.getD 96 undef, l.getD 97 undef, l.getD 98 undef, l.getD 99 undef, l.getD 100 undef, l.getD 101 undef, l.getD 102 undef, l.getD 103 undef, l.getD 104 undef, l.getD 105 undef, l.getD 106 undef, l.getD 107 undef, l.getD 108 undef, l.getD 109 undef, l.getD 110 undef, l.getD 111 undef, l.getD 112 undef, l.getD 113 undef, l.getD 114 undef, l.getD 115 undef, l.getD 116 undef, l.getD 117 undef, l.getD 118 undef, l.getD 119 undef, l.getD 120 undef, l.getD 121 undef, l.getD 122 undef, l.getD 123 undef, l.getD 124 undef, l.getD 125 undef, l.getD 126 undef, l.getD 127 undef, l.getD 128 undef, l.getD 129 undef, l.getD 130 undef, l.getD 131 undef, l.getD 132 undef, l.getD 133 undef, l.getD 134 undef, l.getD 135 undef, l.getD 136 undef, l.getD 137 undef, l.getD 138 undef, l.getD 139 undef, l.getD 140 undef, l.getD 141 undef, l.getD 142 undef, l.getD 143 undef, l.getD 144 undef, l.getD 145 undef, l.getD 146 undef, l.getD 147 undef, l.getD 148 undef, l.getD 149 undef, l.getD 150 undef, l.getD 151 undef, l.getD 152 undef, l.getD 153 undef, l.getD 154 undef, l.getD 155 undef, l.getD 156 undef, l.getD 157 undef, l.getD 158 undef, l.getD 159 undef, l.getD 160 undef, l.getD 161 undef, l.getD 162 undef, l.getD 163 undef, l.getD 164 undef, l.getD 165 undef, l.getD 166 undef, l.getD 167 undef, l.getD 168 undef, l.getD 169 undef, l.getD 170 undef, l.getD 171 undef, l.getD 172 undef, l.getD 173 undef, l.getD 174 undef, l.getD 175 undef, l.getD 176 undef, l.getD 177 undef, l.getD 178 undef, l.getD 179 undef, l.getD 180 undef, l.getD 181 undef, l.getD 182 undef, l.getD 183 undef, l.getD 184 undef, l.getD 185 undef, l.getD 186 undef, l.getD 187 undef, l.getD 188 undef, l.getD 189 undef, l.getD 190 undef, l.getD 191 undef, l.getD 192 undef, l.getD 193 undef, l.getD 194 undef, l.getD 195 undef, l.getD 196 undef, l.getD 197 undef, l.getD 198 undef, l.getD 199 undef, l.getD 200 undef, l.getD 201 undef, l.getD 202 undef, l.getD 203 undef, l.getD 204 undef, l.getD 205 undef, l.getD 206 undef, l.getD 207 undef, l.getD 208 undef, l.getD 209 undef, l.getD 210 undef, l.getD 211 undef, l.getD 212 undef, l.getD 213 undef, l.getD 214 undef, l.getD 215 undef, l.getD 216 undef, l.getD 217 undef, l.getD 218 undef, l.getD 219 undef, l.getD 220 undef, l.getD 221 undef, l.getD 222 undef, l.getD 223 undef, l.getD 224 undef, l.getD 225 undef, l.getD 226 undef, l.getD 227 undef, l.getD 228 undef, l.getD 229 undef, l.getD 230 undef, l.getD 231 undef, l.getD 232 undef, l.getD 233 undef, l.getD 234 undef, l.getD 235 undef, l.getD 236 undef, l.getD 237 undef, l.getD 238 undef, l.getD 239 undef, l.getD 240 undef, l.getD 241 undef, l.getD 242 undef, l.getD 243 undef, l.getD 244 undef, l.getD 245 undef, l.getD 246 undef, l.getD 247 undef, l.getD 248 undef, l.getD 249 undef, l.getD 250 undef] from rfl] at hm ⊢
  rw [h24, h241] at hm ⊢
  exact cs_rf2 (fun i => l.getD i undef) ds w B b' Bo es hB hC hbo n1 n2 hm
/-- What holds in each round of CacheSays: the cache has ec, the document's answer em. -/
structure CsS (W w : World) (R Bm bc : Nat) (vm : Value) (ec em : List En) (ds : List Nat) : Prop where
  ca : CaL w bc ec
  pm : w.heap[Bm]? = some (.cells #[vm] 90)
  sm : SlC w (Bm + 1) vm em
  nb : ∀ g, vm.ownBlock = some g → g ≠ bc
  r0 : ∃ rv, w.cell? ⟨R, 0, none⟩ = some (.bool rv)
  rz : w.frozen? ⟨R, 0, none⟩ = false
  up : Upd (fun _ => False) W w
  ms : Marks W.heap.size w ds
  di : Dist ec
  g0 : W.heap.size ≤ R
  g1 : R < Bm
  g2 : R < bc
  g3 : bc ≠ Bm
variable {W w w' : World} {R Bm bc : Nat} {vm : Value} {ec em : List En} {ds : List Nat}
theorem CsS.same (h : CsS W w R Bm bc vm ec em ds) (u : Upd (fun _ => False) w w') : CsS W w' R Bm bc vm ec em ds where
  ca := h.ca.upd u (fun f => f)
  pm := (u.block Bm (Array.getElem?_eq_some_iff.1 h.pm).1 (fun f => f)).trans h.pm
  sm := h.sm.upd u (fun _ _ f => f)
  nb := h.nb
  r0 := by obtain ⟨rv, hr⟩ := h.r0; exact ⟨rv, u.cell hr (fun f => f)⟩
  rz := by obtain ⟨rv, hr⟩ := h.r0; rw [u.frozen hr (fun f => f)]; exact h.rz
  up := h.up.trans u (fun _ _ f => f)
  ms := h.ms.upd u (fun _ _ f => f)
  di := h.di
  g0 := h.g0
  g1 := h.g1
  g2 := h.g2
  g3 := h.g3
/-- A call on the cache. -/
theorem CsS.call {ec' : List En} (h : CsS W w R Bm bc vm ec em ds) (u : Upd (fun k => k = bc) w w') (hc : CaL w' bc ec') (hd : Dist ec') : CsS W w' R Bm bc vm ec' em ds where
  ca := hc
  pm := (u.block Bm (Array.getElem?_eq_some_iff.1 h.pm).1 (fun e => h.g3 e.symm)).trans h.pm
  sm := h.sm.upd u (fun k hk e => h.nb k hk e)
  nb := h.nb
  r0 := by obtain ⟨rv, hr⟩ := h.r0; exact ⟨rv, u.cell hr (by have := h.g2; simp only; omega)⟩
  rz := by obtain ⟨rv, hr⟩ := h.r0; rw [u.frozen hr (by have := h.g2; simp only; omega)]; exact h.rz
  up := h.up.trans u (fun i hi e => by have := h.g0; have := h.g2; omega)
  ms := h.ms.upd u (fun D hD e => by
    obtain ⟨c, h1, _⟩ := h.ca
    exact mark_ne (h.ms.2 D hD).2.2 h1.cnt e)
  di := hd
  g0 := h.g0
  g1 := h.g1
  g2 := h.g2
  g3 := h.g3
/-- Another list is kept as the document's answer. -/
theorem CsS.keep {v' : Value} {em' : List En} {z : Nat} (h : CsS W w R Bm bc vm ec em ds) (hs : SlC w z v' em') (hz : Bm < z) (hz2 : bc < z) : CsS W (w.setCell ⟨Bm, 0, none⟩ v') R Bm bc v' ec em' ds := by
  have u := Upd.one w Bm 0 v'
  have hcell : w.cell? ⟨Bm, 0, none⟩ = some vm := box_cell h.pm 0
  exact ⟨h.ca.upd u h.g3, Boxed.set v' h.pm, (hs.weak hz).upd u (fun k hk e => by have := (hs.own_lt hk).1; omega), fun g hg => by have := (hs.own_lt hg).1; omega,
    by obtain ⟨rv, hr⟩ := h.r0; exact ⟨rv, u.cell hr (by have := h.g1; simp only; omega)⟩, by rw [World.frozen?_setCell]; exact h.rz,
    h.up.trans u (fun i hi e => by have := h.g0; have := h.g1; omega), h.ms.upd u (fun D hD e => mark_ne (h.ms.2 D hD).2.2 hcell e), h.di, h.g0, h.g1, h.g2, h.g3⟩
/-- A copy goes on. -/
theorem CsS.other {b2 : Nat} {e2 : List En} (h : CsS W w R Bm bc vm ec em ds) (hc : CaL w b2 e2) (hd : Dist e2) (hr : R < b2) (hm : b2 ≠ Bm) (hn : ∀ g, vm.ownBlock = some g → g ≠ b2) : CsS W w R Bm b2 vm e2 em ds :=
  ⟨hc, h.pm, h.sm, hn, h.r0, h.rz, h.up, h.ms, hd, h.g0, h.g1, hr, hm⟩
/-- A loop over entries has run. -/
theorem CsS.mark {D Bk : Nat} {v0 : Value} (h : CsS W w R Bm bc vm ec em ds) (u : Upd (fun k => k = Bk) w w') (hk : w.cell? ⟨Bk, 0, none⟩ = some v0) (n1 : R ≠ Bk) (n2 : Bm ≠ Bk) (n3 : bc ≠ Bk) (n6 : ∀ g, vm.ownBlock = some g → g ≠ Bk) (hz : W.heap.size ≤ Bk) (hD : w.heap.size ≤ D) (hd : w'.heap[D]? = some (.deferred (some []))) : CsS W w' R Bm bc vm ec em (D :: ds) where
  ca := h.ca.upd u n3
  pm := (u.block Bm (Array.getElem?_eq_some_iff.1 h.pm).1 n2).trans h.pm
  sm := h.sm.upd u (fun k hk e => n6 k hk e)
  nb := h.nb
  r0 := by obtain ⟨rv, hr⟩ := h.r0; exact ⟨rv, u.cell hr n1⟩
  rz := by obtain ⟨rv, hr⟩ := h.r0; rw [u.frozen hr n1]; exact h.rz
  up := h.up.trans u (fun i hi e => by omega)
  ms := (h.ms.upd u (fun E hE e => mark_ne (h.ms.2 E hE).2.2 hk e)).cons (Nat.le_trans h.up.size hD) hd (fun hE => by have := (h.ms.2 D hE).2.1; omega)
  di := h.di
  g0 := h.g0
  g1 := h.g1
  g2 := h.g2
  g3 := h.g3
theorem CsS.leaves {fn : Func} {tmps : Array Value} {P : Ending → World → Prop} (h : CsS W w R Bm bc vm ec em ds) (hv : w.cell? ⟨R, 0, none⟩ = some (.bool true))
    (hm : ∀ w', w'.cell? ⟨R, 0, none⟩ = some (.bool true) → Upd (fun _ => False) W w' → LeavesIn Fence.wide 8 Try.prog fn tmps P [] .returning w') : LeavesInM Fence.wide 8 Try.prog fn tmps P (marks ds) .returning w := by
  refine leaves_marks ds w h.ms (fun w' ht => hm w' ?_ ?_)
  · rw [World.cell?_of_block (w := w) (ht.block R (fun hR => mark_ne (h.ms.2 R hR).2.2 hv rfl))]
    exact hv
  · exact h.up.trans (ht.upd (fun D hD => (h.ms.2 D hD).1)) (fun i hi e => by omega)
theorem CsS.store (h : CsS W w R Bm bc vm ec em ds) : CsS W (w.setCell ⟨R, 0, none⟩ (.bool true)) R Bm bc vm ec em ds ∧ (w.setCell ⟨R, 0, none⟩ (.bool true)).cell? ⟨R, 0, none⟩ = some (.bool true) := by
  obtain ⟨rv, hr⟩ := h.r0
  have hv := World.cell?_setCell_same w ⟨R, 0, none⟩ (.bool true) hr
  have u := Upd.one w R 0 (.bool true)
  exact ⟨⟨h.ca.upd u (by have := h.g2; omega), (u.block Bm (Array.getElem?_eq_some_iff.1 h.pm).1 (by have := h.g1; omega)).trans h.pm, h.sm.upd u (fun k hk e => by have := (h.sm.own_lt hk).1; have := h.g1; omega), h.nb, ⟨_, hv⟩, by rw [World.frozen?_setCell]; exact h.rz, h.up.trans u (fun i hi e => by have := h.g0; omega),
    h.ms.upd u (fun D hD e => mark_ne (h.ms.2 D hD).2.2 hr e), h.di, h.g0, h.g1, h.g2, h.g3⟩, hv⟩
/-- The frame, by a function. -/
def csI (W : World) (R Bm len : Nat) (sl : Value) (k : Nat) (a : Act) (w : World) : Prop :=
  ∃ (c : Nat → Value) (es : List En) (ds : List Nat) (i bc : Nat) (vm : Value), i + k = len ∧ c 0 = sl ∧ c 2 = .pointer (some ⟨R, 0, none⟩) ∧ c 4 = .pointer (some ⟨bc, 0, none⟩) ∧ c 5 = .pointer (some ⟨Bm, 0, none⟩) ∧ c 6 = .int .i64 i ∧ CsS W w R Bm bc vm es es ds ∧ a = ⟨((List.range 251).map c).toArray, marks ds⟩
theorem csI_intro {len : Nat} {sl : Value} {k i : Nat} {l : List Value} (hl : l.length = 251) (hk : i + k = len) (h0 : l.getD 0 undef = sl) (h2 : l.getD 2 undef = .pointer (some ⟨R, 0, none⟩)) (h4 : l.getD 4 undef = .pointer (some ⟨bc, 0, none⟩)) (h5 : l.getD 5 undef = .pointer (some ⟨Bm, 0, none⟩)) (h6 : l.getD 6 undef = .int .i64 i) (hS : CsS W w R Bm bc vm ec ec ds) :
    csI W R Bm len sl k ⟨l.toArray, marks ds⟩ w := ⟨fun j => l.getD j undef, ec, ds, i, bc, vm, hk, h0, h2, h4, h5, h6, hS, by rw [frame_fn l, hl]⟩
/-- What the switch must come to. -/
def csPost (W : World) (R Bm : Nat) (sl : Value) (i : Nat) (Q : Exit → Act → World → Prop) : Prop :=
  ∀ (c' : Nat → Value) (es' : List En) (ds' : List Nat) (bc' : Nat) (vm' : Value) (w' : World), c' 0 = sl → c' 2 = .pointer (some ⟨R, 0, none⟩) → c' 4 = .pointer (some ⟨bc', 0, none⟩) → c' 5 = .pointer (some ⟨Bm, 0, none⟩) → c' 6 = .int .i64 i → c' 8 = .bool true → CsS W w' R Bm bc' vm' es' es' ds' → Q .normal ⟨((List.range 251).map c').toArray, marks ds'⟩ w'
theorem csPost.use {sl : Value} {i : Nat} {Q : Exit → Act → World → Prop} (h : csPost W R Bm sl i Q) {l : List Value} (hl : l.length = 251) (h0 : l.getD 0 undef = sl) (h2 : l.getD 2 undef = .pointer (some ⟨R, 0, none⟩)) (h4 : l.getD 4 undef = .pointer (some ⟨bc, 0, none⟩)) (h5 : l.getD 5 undef = .pointer (some ⟨Bm, 0, none⟩)) (h6 : l.getD 6 undef = .int .i64 i) (h8 : l.getD 8 undef = .bool true) (hS : CsS W w R Bm bc vm ec em ds) (he : ec = em) : Q .normal ⟨l.toArray, marks ds⟩ w := by
  subst he
  have := h (fun j => l.getD j undef) ec ds bc vm w h0 h2 h4 h5 h6 h8 hS
  rw [frame_fn l, hl]
  exact this
noncomputable def csSw : Code := (Try.f7.body.bind (blkAt 2)).getD .skip
end Go.Proofs.Ytehdddmpjimfhaa
