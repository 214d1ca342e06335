/- undercroftlaw.CacheSays: its state between acts. -/
import Derived.Test.YtadpibcgjgcjhaaPart08
import Derived.Test.YtadpibcgjgcjhaaPart04
namespace Go.Proofs.Ytadpibcgjgcjhaa
open Go.ChangeShapes Go.WideShapes Go.ChangeAt Go.RowKit Go.Shelf
set_option maxRecDepth 1000000

theorem cs_rf1L (l : List Value) (hl : l.length = 251) (ds : List Nat) (w : World) (B b' q R Bm Bk base : Nat) (vm : Value) (es : List En) (x : Ac) (rv : Bool) (h2 : l.getD 2 undef = .pointer (some ⟨R, 0, none⟩)) (h5 : l.getD 5 undef = .pointer (some ⟨Bm, 0, none⟩)) (h7 : l.getD 7 undef = .pointer (some ⟨q, 0, none⟩)) (h19 : l.getD 19 undef = .pointer (some ⟨Bk, 0, none⟩)) (h197 : l.getD 197 undef = .func (.func 91) #[] #[.pointer (some ⟨B, 0, none⟩)])
    (hB : w.cell? ⟨B, 0, none⟩ = some (.pointer (some ⟨b', 0, none⟩))) (hC : CaL w b' es)
    (y2 : w.cell? ⟨q, 2, none⟩ = some (.int .i64 x.a)) (r0 : w.cell? ⟨R, 0, none⟩ = some (.bool rv)) (rz : w.frozen? ⟨R, 0, none⟩ = false)
    (pm : w.heap[Bm]? = some (.cells #[vm] 90)) (sm : SlC w base vm es) (hbk : w.heap[Bk]? = some (.cells #[.int .i64 0] 3))
    (n1 : R ≠ Bk) (n2 : Bm ≠ Bk) (n3 : q ≠ Bk) (n4 : b' ≠ Bk) (n5 : B ≠ Bk) (n6 : ∀ g, vm.ownBlock = some g → g ≠ Bk) {Q : Exit → Act → World → Prop}
    (hm : ∀ (D : Nat) (W : World), w.heap.size ≤ D → Upd (fun k => k = Bk) w W → W.heap[Bk]? = some (.cells #[.int .i64 (es.length : Nat)] 3) → W.heap[D]? = some (.deferred (some [])) → Q .normal ⟨l.toArray, marks (D :: ds)⟩ W)
    (hx : ∀ (D k : Nat) (W : World), w.heap.size ≤ D → k ≤ es.length → (k : Int) = x.a → Upd (fun k => k = Bk) w W → W.heap[Bk]? = some (.cells #[.int .i64 (k : Nat)] 3) → W.heap[D]? = some (.deferred (some [])) → Q (.exit 3) ⟨l.toArray, marks (D :: ds)⟩ W) :
    Code.wp Try.prog csRf1 Q ⟨l.toArray, marks ds⟩ w := by
  rw [frame_fn l, hl, show ((List.range 251).map (fun i => l.getD i undef)).toArray = #[l.getD 0 undef, l.getD 1 undef, l.getD 2 undef, l.getD 3 undef, l.getD 4 undef, l.getD 5 undef, l.getD 6 undef, l.getD 7 undef, l.getD 8 undef, l.getD 9 undef, l.getD 10 undef, l.getD 11 undef, l.getD 12 undef, l.getD 13 undef, l.getD 14 undef, l.getD 15 undef, l.getD 16 undef, l.getD 17 undef, l.getD 18 undef, l.getD 19 undef, l.getD 20 undef, l.getD 21 undef, l.getD 22 undef, l.getD 23 undef, l.getD 24 undef, l.getD 25 undef, l.getD 26 undef, l.getD 27 undef, l.getD 28 undef, l.getD 29 undef, l.getD 30 undef, l.getD 31 undef, l.getD 32 undef, l.getD 33 undef, l.getD 34 undef, l.getD 35 undef, l.getD 36 undef, l.getD 37 undef, l.getD 38 undef, l.getD 39 undef, l.getD 40 undef, l.getD 41 undef, l.getD 42 undef, l.getD 43 undef, l.getD 44 undef, l.getD 45 undef, l.getD 46 undef, l.getD 47 undef, l.getD 48 undef, l.getD 49 undef, l.getD 50 undef, l.getD 51 undef, l.getD 52 undef, l.getD 53 undef, l.getD 54 undef, l.getD 55 undef, l.getD 56 undef, l.getD 57 undef, l.getD 58 undef, l.getD 59 undef, l.getD 60 undef, l.getD 61 undef, l.getD 62 undef, l.getD 63 undef, l.getD 64 undef, l.getD 65 undef, l.getD 66 undef, l.getD 67 undef, l.getD 68 undef, l.getD 69 undef, l.getD 70 undef, l.getD 71 undef, l.getD 72 undef, l.getD 73 undef, l.getD 74 undef, l.getD 75 undef, l.getD 76 undef, l.getD 77 undef, l.getD 78 undef, l.getD 79 undef, l.getD 80 undef, l.getD 81 undef, l.getD 82 undef, l.getD 83 undef, l.getD 84 undef, l.getD 85 undef, l.getD 86 undef, l.getD 87 undef, l.getD 88 undef, l.getD 89 undef, l.getD 90 undef, l.getD 91 undef, l.getD 92 undef, l.getD 93 undef, l.getD 94 undef, l.getD 95 undef, l.getD 96 undef, l.getD 97 undef, l.getD 98 undef, l.getD 99 undef, l.getD 100 undef, l.getD 101 undef, l.getD 102 undef, l.getD 103 undef, l.getD 104 undef, l.getD 105 undef, l.getD 106 undef, l.getD 107 undef, l.getD 108 undef, l.getD 109 undef, l.getD 110 undef, l.getD 111 undef, l.getD 112 undef, l.getD 113 undef, l.getD 114 undef, l.getD 115 undef, l.getD 116 undef, l.getD 117 undef, l.getD 118 undef, l.getD 119 undef, l.getD 120 undef, l.getD 121 undef, l.getD 122 undef, l.getD 123 undef, l.getD 124 undef, l.getD 125 undef, l.getD 126 undef, l.getD 127 undef, l.getD 128 undef, l.getD 129 undef, l.getD 130 undef, l.getD 131 undef, l.getD 132 undef, l.getD 133 undef, l.getD 134 undef, l.getD 135 undef, l.getD 136 undef, l.getD 137 undef, l.getD 138 undef, l.getD 139 undef, l.getD 140 undef, l.getD 141 undef, l.getD 142 undef, l.getD 143 undef, l.getD 144 undef, l.getD 145 undef, l.getD 146 undef, l.getD 147 undef, l.getD 148 undef, l.getD 149 undef, l.getD 150 undef, l.getD 151 undef, l.getD 152 undef, l.getD 153 undef, l.getD 154 undef, l.getD 155 undef, l.getD 156 undef, l.getD 157 undef, l.getD 158 undef, l.getD 159 undef, l.getD 160 undef, l.getD 161 undef, l.getD 162 undef, l.getD 163 undef, l.getD 164 undef, l.getD 165 undef, l.getD 166 undef, l.getD 167 undef, l.getD 168 undef, l.getD 169 undef, l.getD 170 undef, l.getD 171 undef, l.getD 172 undef, l.getD 173 undef, l.getD 174 undef, l.getD 175 undef, l.getD 176 undef, l.getD 177 undef, l.getD 178 undef, l.getD 179 undef, l.getD 180 undef, l.getD 181 undef, l.getD 182 undef, l.getD 183 undef, l.getD 184 undef, l.getD 185 undef, l.getD 186 undef, l.getD 187 undef, l.getD 188 undef, l.getD 189 undef, l.getD 190 undef, l.getD 191 undef, l.getD 192 undef, l.getD 193 undef, l.getD 194 undef, l.getD 195 undef, l.getD 196 undef, l.getD 197 undef, l.getD 198 undef, l.getD 199 undef, l.getD 200 undef, l.getD 201 undef, l.getD 202 undef, l.getD 203 undef, l.getD 204 undef, l.getD 205 undef, l.getD 206 undef, l.getD 207 undef, l.getD 208 undef, l.getD 209 undef, l.getD 210 undef, l.getD 211 undef, l.getD 212 undef, l.getD 213 undef, l.getD 214 undef, l.getD 215 undef, l.getD 216 undef, l.getD 217 undef, l.getD 218 undef, l.getD 219 undef, l.getD 220 undef, l.getD 221 undef, l.getD 222 undef, l.getD 223 undef, l.getD 224 undef, l.getD 225 undef, l.getD 226 undef, l.getD 227 undef, l.getD 228 undef, l.getD 229 undef, l.getD 230 undef, l.getD 231 undef, l.getD 232 undef, l.getD 233 undef, l.getD 234 undef, l.getD 235 undef, l.getD 236 undef, l.getD 237 undef, l.getD 238 undef, l.getD 239 undef, l.getD 240 undef, l.getD 241 undef, l.getD 242 undef, l.getD 243 undef, l.getD 244 undef, l.getD 245 undef, l.getD 246 undef, l.getD 247 undef, l.getD 248 undef, l.getD 249 undef, l.getD 250 undef] from rfl] at hm hx ⊢
  rw [h2, h5, h7, h19, h197] at hm hx ⊢
  exact cs_rf1 (fun i => l.getD i undef) ds w B b' q R Bm Bk base vm es x rv hB hC y2 r0 rz pm sm hbk n1 n2 n3 n4 n5 n6 hm hx
theorem cs_rf2L (l : List Value) (hl : l.length = 251) (ds : List Nat) (w : World) (B b' Bo : Nat) (es : List En) (h24 : l.getD 24 undef = .pointer (some ⟨Bo, 0, none⟩)) (h241 : l.getD 241 undef = .func (.func 91) #[] #[.pointer (some ⟨B, 0, none⟩)])
    (hB : w.cell? ⟨B, 0, none⟩ = some (.pointer (some ⟨b', 0, none⟩))) (hC : CaL w b' es)
    (hbo : w.heap[Bo]? = some (.cells #[.slice none 0 0] 89)) (n1 : b' ≠ Bo) (n2 : B ≠ Bo) {Q : Exit → Act → World → Prop}
    (hm : ∀ (D : Nat) (W : World) (v : Value), w.heap.size ≤ D → Upd (fun k => k = Bo) w W → W.heap[Bo]? = some (.cells #[v] 89) → SlC W w.heap.size v es → W.heap[D]? = some (.deferred (some [])) → Q .normal ⟨l.toArray, marks (D :: ds)⟩ W) :
    Code.wp Try.prog csRf2 Q ⟨l.toArray, marks ds⟩ w := by
  rw [frame_fn l, hl, show ((List.range 251).map (fun i => l.getD i undef)).toArray = #[l.getD 0 undef, l.getD 1 undef, l.getD 2 undef, l.getD 3 undef, l.getD 4 undef, l.getD 5 undef, l.getD 6 undef, l.getD 7 undef, l.getD 8 undef, l.getD 9 undef, l.getD 10 undef, l.getD 11 undef, l.getD 12 undef, l.getD 13 undef, l.getD 14 undef, l.getD 15 undef, l.getD 16 undef, l.getD 17 undef, l.getD 18 undef, l.getD 19 undef, l.getD 20 undef, l.getD 21 undef, l.getD 22 undef, l.getD 23 undef, l.getD 24 undef, l.getD 25 undef, l.getD 26 undef, l.getD 27 undef, l.getD 28 undef, l.getD 29 undef, l.getD 30 undef, l.getD 31 undef, l.getD 32 undef, l.getD 33 undef, l.getD 34 undef, l.getD 35 undef, l.getD 36 undef, l.getD 37 undef, l.getD 38 undef, l.getD 39 undef, l.getD 40 undef, l.getD 41 undef, l.getD 42 undef, l.getD 43 undef, l.getD 44 undef, l.getD 45 undef, l.getD 46 undef, l.getD 47 undef, l.getD 48 undef, l.getD 49 undef, l.getD 50 undef, l.getD 51 undef, l.getD 52 undef, l.getD 53 undef, l.getD 54 undef, l.getD 55 undef, l.getD 56 undef, l.getD 57 undef, l.getD 58 undef, l.getD 59 undef, l.getD 60 undef, l.getD 61 undef, l.getD 62 undef, l.getD 63 undef, l.getD 64 undef, l.getD 65 undef, l.getD 66 undef, l.getD 67 undef, l.getD 68 undef, l.getD 69 undef, l.getD 70 undef, l.getD 71 undef, l.getD 72 undef, l.getD 73 undef, l.getD 74 undef, l.getD 75 undef, l.getD 76 undef, l.getD 77 undef, l.getD 78 undef, l.getD 79 undef, l.getD 80 undef, l.getD 81 undef, l.getD 82 undef, l.getD 83 undef, l.getD 84 undef, l.getD 85 undef, l.getD 86 undef, l.getD 87 undef, l.getD 88 undef, l.getD 89 undef, l.getD 90 undef, l.getD 91 undef, l.getD 92 undef, l.getD 93 undef, l.getD 94 undef, l.getD 95 undef, l.getD 96 undef, l.getD 97 undef, l.getD 98 undef, l.getD 99 undef, l.getD 100 undef, l.getD 101 undef, l.getD 102 undef, l.getD 103 undef, l.getD 104 undef, l.getD 105 undef, l.getD 106 undef, l.getD 107 undef, l.getD 108 undef, l.getD 109 undef, l.getD 110 undef, l.getD 111 undef, l.getD 112 undef, l.getD 113 undef, l.getD 114 undef, l.getD 115 undef, l.getD 116 undef, l.getD 117 undef, l.getD 118 undef, l.getD 119 undef, l.getD 120 undef, l.getD 121 undef, l.getD 122 undef, l.getD 123 undef, l.getD 124 undef, l.getD 125 undef, l.getD 126 undef, l.getD 127 undef, l.getD 128 undef, l.getD 129 undef, l.getD 130 undef, l.getD 131 undef, l.getD 132 undef, l.getD 133 undef, l.getD 134 undef, l.getD 135 undef, l.getD 136 undef, l.getD 137 undef, l.getD 138 undef, l.getD 139 undef, l.getD 140 undef, l.getD 141 undef, l.getD 142 undef, l.getD 143 undef, l.getD 144 undef, l.getD 145 undef, l.getD 146 undef, l.getD 147 undef, l.getD 148 undef, l.getD 149 undef, l.getD 150 undef, l.getD 151 undef, l.getD 152 undef, l.getD 153 undef, l.getD 154 undef, l.getD 155 undef, l.getD 156 undef, l.getD 157 undef, l.getD 158 undef, l.getD 159 undef, l.getD 160 undef, l.getD 161 undef, l.getD 162 undef, l.getD 163 undef, l.getD 164 undef, l.getD 165 undef, l.getD 166 undef, l.getD 167 undef, l.getD 168 undef, l.getD 169 undef, l.getD 170 undef, l.getD 171 undef, l.getD 172 undef, l.getD 173 undef, l.getD 174 undef, l.getD 175 undef, l.getD 176 undef, l.getD 177 undef, l.getD 178 undef, l.getD 179 undef, l.getD 180 undef, l.getD 181 undef, l.getD 182 undef, l.getD 183 undef, l.getD 184 undef, l.getD 185 undef, l.getD 186 undef, l.getD 187 undef, l.getD 188 undef, l.getD 189 undef, l.getD 190 undef, l.getD 191 undef, l.getD 192 undef, l.getD 193 undef, l.getD 194 undef, l.getD 195 undef, l.getD 196 undef, l.getD 197 undef, l.getD 198 undef, l.getD 199 undef, l.getD 200 undef, l.getD 201 undef, l.getD 202 undef, l.getD 203 undef, l.getD 204 undef, l.getD 205 undef, l.getD 206 undef, l.getD 207 undef, l.getD 208 undef, l.getD 209 undef, l.getD 210 undef, l.getD 211 undef, l.getD 212 undef, l.getD 213 undef, l.getD 214 undef, l.getD 215 undef, l.getD 216 undef, l.getD 217 undef, l.getD 218 undef, l.getD 219 undef, l.getD 220 undef, l.getD 221 undef, l.getD 222 undef, l.getD 223 undef, l.getD 224 undef, l.getD 225 undef, l.getD 226 undef, l.getD 227 undef, l.getD 228 undef, l.getD 229 undef, l.getD 230 undef, l.getD 231 undef, l.getD 232 undef, l.getD 233 undef, l.getD 234 undef, l.getD 235 undef, l.getD 236 undef, l.getD 237 undef, l.getD 238 undef, l.getD 239 undef, l.getD 240 undef, l.getD 241 undef, l.getD 242 undef, l.getD 243 undef, l.getD 244 undef, l.getD 245 undef, l.getD 246 undef, l.getD 247 undef, l.getD 248 undef, l.getD 249 undef, l.getD 250 undef] from rfl] at hm ⊢
  rw [h24, h241] at hm ⊢
  exact cs_rf2 (fun i => l.getD i undef) ds w B b' Bo es hB hC hbo n1 n2 hm
/-- What holds in each round of CacheSays: the cache has ec, the document's answer em. -/
structure CsS (W w : World) (R Bm bc : Nat) (vm : Value) (ec em : List En) (ds : List Nat) : Prop where
  ca : CaL w bc ec
  pm : w.heap[Bm]? = some (.cells #[vm] 90)
  sm : SlC w (Bm + 1) vm em
  nb : ∀ g, vm.ownBlock = some g → g ≠ bc
  r0 : ∃ rv, w.cell? ⟨R, 0, none⟩ = some (.bool rv)
  rz : w.frozen? ⟨R, 0, none⟩ = false
  up : Upd (fun _ => False) W w
  ms : Marks W.heap.size w ds
  di : Dist ec
  g0 : W.heap.size ≤ R
  g1 : R < Bm
  g2 : R < bc
  g3 : bc ≠ Bm
variable {W w w' : World} {R Bm bc : Nat} {vm : Value} {ec em : List En} {ds : List Nat}
theorem CsS.same (h : CsS W w R Bm bc vm ec em ds) (u : Upd (fun _ => False) w w') : CsS W w' R Bm bc vm ec em ds where
  ca := h.ca.upd u (fun f => f)
  pm := (u.block Bm (Array.getElem?_eq_some_iff.1 h.pm).1 (fun f => f)).trans h.pm
  sm := h.sm.upd u (fun _ _ f => f)
  nb := h.nb
  r0 := by obtain ⟨rv, hr⟩ := h.r0; exact ⟨rv, u.cell hr (fun f => f)⟩
  rz := by obtain ⟨rv, hr⟩ := h.r0; rw [u.frozen hr (fun f => f)]; exact h.rz
  up := h.up.trans u (fun _ _ f => f)
  ms := h.ms.upd u (fun _ _ f => f)
  di := h.di
  g0 := h.g0
  g1 := h.g1
  g2 := h.g2
  g3 := h.g3
/-- A call on the cache. -/
theorem CsS.call {ec' : List En} (h : CsS W w R Bm bc vm ec em ds) (u : Upd (fun k => k = bc) w w') (hc : CaL w' bc ec') (hd : Dist ec') : CsS W w' R Bm bc vm ec' em ds where
  ca := hc
  pm := (u.block Bm (Array.getElem?_eq_some_iff.1 h.pm).1 (fun e => h.g3 e.symm)).trans h.pm
  sm := h.sm.upd u (fun k hk e => h.nb k hk e)
  nb := h.nb
  r0 := by obtain ⟨rv, hr⟩ := h.r0; exact ⟨rv, u.cell hr (by have := h.g2; simp only; omega)⟩
  rz := by obtain ⟨rv, hr⟩ := h.r0; rw [u.frozen hr (by have := h.g2; simp only; omega)]; exact h.rz
  up := h.up.trans u (fun i hi e => by have := h.g0; have := h.g2; omega)
  ms := h.ms.upd u (fun D hD e => by
    obtain ⟨c, h1, _⟩ := h.ca
    exact mark_ne (h.ms.2 D hD).2.2 h1.cnt e)
  di := hd
  g0 := h.g0
  g1 := h.g1
  g2 := h.g2
  g3 := h.g3
/-- Another list is kept as the document's answer. -/
theorem CsS.keep {v' : Value} {em' : List En} {z : Nat} (h : CsS W w R Bm bc vm ec em ds) (hs : SlC w z v' em') (hz : Bm < z) (hz2 : bc < z) : CsS W (w.setCell ⟨Bm, 0, none⟩ v') R Bm bc v' ec em' ds := by
  have u := Upd.one w Bm 0 v'
  have hcell : w.cell? ⟨Bm, 0, none⟩ = some vm := box_cell h.pm 0
  exact ⟨h.ca.upd u h.g3, Boxed.set v' h.pm, (hs.weak hz).upd u (fun k hk e => by have := (hs.own_lt hk).1; omega), fun g hg => by have := (hs.own_lt hg).1; omega,
    by obtain ⟨rv, hr⟩ := h.r0; exact ⟨rv, u.cell hr (by have := h.g1; simp only; omega)⟩, by rw [World.frozen?_setCell]; exact h.rz,
    h.up.trans u (fun i hi e => by have := h.g0; have := h.g1; omega), h.ms.upd u (fun D hD e => mark_ne (h.ms.2 D hD).2.2 hcell e), h.di, h.g0, h.g1, h.g2, h.g3⟩
/-- A copy goes on. -/
theorem CsS.other {b2 : Nat} {e2 : List En} (h : CsS W w R Bm bc vm ec em ds) (hc : CaL w b2 e2) (hd : Dist e2) (hr : R < b2) (hm : b2 ≠ Bm) (hn : ∀ g, vm.ownBlock = some g → g ≠ b2) : CsS W w R Bm b2 vm e2 em ds :=
  ⟨hc, h.pm, h.sm, hn, h.r0, h.rz, h.up, h.ms, hd, h.g0, h.g1, hr, hm⟩
/-- A loop over entries has run. -/
theorem CsS.mark {D Bk : Nat} {v0 : Value} (h : CsS W w R Bm bc vm ec em ds) (u : Upd (fun k => k = Bk) w w') (hk : w.cell? ⟨Bk, 0, none⟩ = some v0) (n1 : R ≠ Bk) (n2 : Bm ≠ Bk) (n3 : bc ≠ Bk) (n6 : ∀ g, vm.ownBlock = some g → g ≠ Bk) (hz : W.heap.size ≤ Bk) (hD : w.heap.size ≤ D) (hd : w'.heap[D]? = some (.deferred (some []))) : CsS W w' R Bm bc vm ec em (D :: ds) where
  ca := h.ca.upd u n3
  pm := (u.block Bm (Array.getElem?_eq_some_iff.1 h.pm).1 n2).trans h.pm
  sm := h.sm.upd u (fun k hk e => n6 k hk e)
  nb := h.nb
  r0 := by obtain ⟨rv, hr⟩ := h.r0; exact ⟨rv, u.cell hr n1⟩
  rz := by obtain ⟨rv, hr⟩ := h.r0; rw [u.frozen hr n1]; exact h.rz
  up := h.up.trans u (fun i hi e => by omega)
  ms := (h.ms.upd u (fun E hE e => mark_ne (h.ms.2 E hE).2.2 hk e)).cons (Nat.le_trans h.up.size hD) hd (fun hE => by have := (h.ms.2 D hE).2.1; omega)
  di := h.di
  g0 := h.g0
  g1 := h.g1
  g2 := h.g2
  g3 := h.g3
theorem CsS.leaves {fn : Func} {tmps : Array Value} {P : Ending → World → Prop} (h : CsS W w R Bm bc vm ec em ds) (hv : w.cell? ⟨R, 0, none⟩ = some (.bool true))
    (hm : ∀ w', w'.cell? ⟨R, 0, none⟩ = some (.bool true) → Upd (fun _ => False) W w' → LeavesIn Fence.wide 8 Try.prog fn tmps P [] .returning w') : LeavesInM Fence.wide 8 Try.prog fn tmps P (marks ds) .returning w := by
  refine leaves_marks ds w h.ms (fun w' ht => hm w' ?_ ?_)
  · rw [World.cell?_of_block (w := w) (ht.block R (fun hR => mark_ne (h.ms.2 R hR).2.2 hv rfl))]
    exact hv
  · exact h.up.trans (ht.upd (fun D hD => (h.ms.2 D hD).1)) (fun i hi e => by omega)
theorem CsS.store (h : CsS W w R Bm bc vm ec em ds) : CsS W (w.setCell ⟨R, 0, none⟩ (.bool true)) R Bm bc vm ec em ds ∧ (w.setCell ⟨R, 0, none⟩ (.bool true)).cell? ⟨R, 0, none⟩ = some (.bool true) := by
  obtain ⟨rv, hr⟩ := h.r0
  have hv := World.cell?_setCell_same w ⟨R, 0, none⟩ (.bool true) hr
  have u := Upd.one w R 0 (.bool true)
  exact ⟨⟨h.ca.upd u (by have := h.g2; omega), (u.block Bm (Array.getElem?_eq_some_iff.1 h.pm).1 (by have := h.g1; omega)).trans h.pm, h.sm.upd u (fun k hk e => by have := (h.sm.own_lt hk).1; have := h.g1; omega), h.nb, ⟨_, hv⟩, by rw [World.frozen?_setCell]; exact h.rz, h.up.trans u (fun i hi e => by have := h.g0; omega),
    h.ms.upd u (fun D hD e => mark_ne (h.ms.2 D hD).2.2 hr e), h.di, h.g0, h.g1, h.g2, h.g3⟩, hv⟩
/-- The frame, by a function. -/
def csI (W : World) (R Bm len : Nat) (sl : Value) (k : Nat) (a : Act) (w : World) : Prop :=
  ∃ (c : Nat → Value) (es : List En) (ds : List Nat) (i bc : Nat) (vm : Value), i + k = len ∧ c 0 = sl ∧ c 2 = .pointer (some ⟨R, 0, none⟩) ∧ c 4 = .pointer (some ⟨bc, 0, none⟩) ∧ c 5 = .pointer (some ⟨Bm, 0, none⟩) ∧ c 6 = .int .i64 i ∧ CsS W w R Bm bc vm es es ds ∧ a = ⟨((List.range 251).map c).toArray, marks ds⟩
theorem csI_intro {len : Nat} {sl : Value} {k i : Nat} {l : List Value} (hl : l.length = 251) (hk : i + k = len) (h0 : l.getD 0 undef = sl) (h2 : l.getD 2 undef = .pointer (some ⟨R, 0, none⟩)) (h4 : l.getD 4 undef = .pointer (some ⟨bc, 0, none⟩)) (h5 : l.getD 5 undef = .pointer (some ⟨Bm, 0, none⟩)) (h6 : l.getD 6 undef = .int .i64 i) (hS : CsS W w R Bm bc vm ec ec ds) :
    csI W R Bm len sl k ⟨l.toArray, marks ds⟩ w := ⟨fun j => l.getD j undef, ec, ds, i, bc, vm, hk, h0, h2, h4, h5, h6, hS, by rw [frame_fn l, hl]⟩
/-- What the switch must come to. -/
def csPost (W : World) (R Bm : Nat) (sl : Value) (i : Nat) (Q : Exit → Act → World → Prop) : Prop :=
  ∀ (c' : Nat → Value) (es' : List En) (ds' : List Nat) (bc' : Nat) (vm' : Value) (w' : World), c' 0 = sl → c' 2 = .pointer (some ⟨R, 0, none⟩) → c' 4 = .pointer (some ⟨bc', 0, none⟩) → c' 5 = .pointer (some ⟨Bm, 0, none⟩) → c' 6 = .int .i64 i → c' 8 = .bool true → CsS W w' R Bm bc' vm' es' es' ds' → Q .normal ⟨((List.range 251).map c').toArray, marks ds'⟩ w'
theorem csPost.use {sl : Value} {i : Nat} {Q : Exit → Act → World → Prop} (h : csPost W R Bm sl i Q) {l : List Value} (hl : l.length = 251) (h0 : l.getD 0 undef = sl) (h2 : l.getD 2 undef = .pointer (some ⟨R, 0, none⟩)) (h4 : l.getD 4 undef = .pointer (some ⟨bc, 0, none⟩)) (h5 : l.getD 5 undef = .pointer (some ⟨Bm, 0, none⟩)) (h6 : l.getD 6 undef = .int .i64 i) (h8 : l.getD 8 undef = .bool true) (hS : CsS W w R Bm bc vm ec em ds) (he : ec = em) : Q .normal ⟨l.toArray, marks ds⟩ w := by
  subst he
  have := h (fun j => l.getD j undef) ec ds bc vm w h0 h2 h4 h5 h6 h8 hS
  rw [frame_fn l, hl]
  exact this
noncomputable def csSw : Code := (Try.f7.body.bind (blkAt 2)).getD .skip
end Go.Proofs.Ytadpibcgjgcjhaa
/- The document's answer for chapter 3: Point. -/
namespace Go.Proofs.Ytadpibcgjgcjhaa
open Go.ChangeShapes Go.WideShapes Go.ChangeAt Go.RowKit
set_option maxRecDepth 100000
attribute [local go_sem ↓] Go.wp_at_zero Go.wp_at_succ

theorem cPoint_any (w : World) (base : Nat) (v : Value) (es : List En) (d : Int) (l : Lf) (h : SlC w base v es) (hl : es.length ≤ 50) :
    Calls Try.prog 53 #[v, .int .i64 d, .agg #[.bool l.there, .bool l.wr, .int .i64 l.fr]] w fun e w' => ∃ v', e = .returned (.tuple #[v', .int .i64 (pntN d es es.length)]) ∧ SlC w' w.heap.size v' (pntTo d l es es.length) ∧ Upd (fun _ => False) w w' := by
  obtain ⟨a, cap, rfl, hc⟩ := h.form
  have HC : Hid _ := hc
  clear hc
  go_enter Try.func53, Try.ntmps53
  go_wp2_with fail
  have u0 := (Upd.refl (fun _ => False) w).alloc (.cells #[.bool l.there, .bool l.wr, .int .i64 l.fr] 69)
  have p0 : (w.alloc (.cells #[.bool l.there, .bool l.wr, .int .i64 l.fr] 69)).cell? ⟨w.heap.size, 0, none⟩ = some (.bool l.there) := by rw [World.cell?_alloc_new]; rfl
  have p1 : (w.alloc (.cells #[.bool l.there, .bool l.wr, .int .i64 l.fr] 69)).cell? ⟨w.heap.size, 1, none⟩ = some (.bool l.wr) := by rw [World.cell?_alloc_new]; rfl
  have p2 : (w.alloc (.cells #[.bool l.there, .bool l.wr, .int .i64 l.fr] 69)).cell? ⟨w.heap.size, 2, none⟩ = some (.int .i64 l.fr) := by rw [World.cell?_alloc_new]; rfl
  have z0 : (w.alloc (.cells #[.bool l.there, .bool l.wr, .int .i64 l.fr] 69)).heap.size = w.heap.size + 1 := by simp
  revert u0 p0 p1 p2 z0
  generalize w.alloc (.cells #[.bool l.there, .bool l.wr, .int .i64 l.fr] 69) = w0
  intro u0 p0 p1 p2 z0
  go_loopg [8, 9, 10] es.length (fun g lv n i wi => ∃ k : Nat, k + g = es.length ∧ i = .int .i64 k ∧ n = .int .i64 (pntN d es k) ∧ SlC wi w0.heap.size lv (pntTo d l es k) ∧ Upd (fun _ => False) w0 wi)
  case atStart => exact ⟨0, by omega, rfl, rfl, SlC.nil _ _, Upd.refl _ _⟩
  case round =>
    obtain ⟨k, hk, rfl, rfl, hS, hu⟩ := hrel
    have HK : Hid _ := hk
    by_cases hlt : k < es.length
    · clear hk
      obtain ⟨g, rfl, _, hglt, hcell⟩ := HC.out k hlt
      have q0 := hu.cell p0 (fun f => f)
      have q1 := hu.cell p1 (fun f => f)
      have q2 := hu.cell p2 (fun f => f)
      have hUU := u0.trans hu (fun _ _ f => f)
      have c0 := hUU.cell (show w.cell? ⟨g, k * 7, none⟩ = some (.int .i64 (atE es k).root) from hcell 0 (by omega)) (fun f => f)
      have c1 := hUU.cell (show w.cell? ⟨g, k * 7 + 1, none⟩ = some (.int .i64 (atE es k).page) from hcell 1 (by omega)) (fun f => f)
      have c2 := hUU.cell (show w.cell? ⟨g, k * 7 + 2, none⟩ = some (.int .i64 (atE es k).dest) from hcell 2 (by omega)) (fun f => f)
      have c3 := hUU.cell (show w.cell? ⟨g, k * 7 + 3, none⟩ = some (.bool (atE es k).may) from hcell 3 (by omega)) (fun f => f)
      have c4 := hUU.cell (show w.cell? ⟨g, k * 7 + 4, none⟩ = some (.bool (atE es k).lf.there) from hcell 4 (by omega)) (fun f => f)
      have c5 := hUU.cell (show w.cell? ⟨g, k * 7 + 5, none⟩ = some (.bool (atE es k).lf.wr) from hcell 5 (by omega)) (fun f => f)
      have c6 := hUU.cell (show w.cell? ⟨g, k * 7 + 6, none⟩ = some (.int .i64 (atE es k).lf.fr) from hcell 6 (by omega)) (fun f => f)
      have hs1 : pntTo d l es (k + 1) = pntTo d l es k ++ [pnt d l (atE es k)] := rfl
      have hs2 : pntN d es (k + 1) = pntN d es k + if (atE es k).dest == d then 1 else 0 := rfl
      have hle := pntN_le d es k
      have hfl : (pntTo d l es k).length ≤ 50 := by rw [pntTo_length]; omega
      have HS1 : Hid _ := hs1
      have HS2 : Hid _ := hs2
      clear hcell HC hs1 hs2
      generalize atE es k = x at *
      generalize pntTo d l es k = fs at *
      cases hd : (x.dest == d) with
      | false =>
        have hp : pnt d l x = x := by simp [pnt, hd]
        rw [hp] at HS1
        rw [hd] at HS2
        obtain ⟨i, hi, he⟩ := Option.map_eq_some_iff.1 infoEn
        simp only [Prod.mk.injEq] at he
        obtain ⟨he1, he2, he3⟩ := he
        have HE1 : Hid _ := he1
        have HE2 : Hid _ := he2
        have HE3 : Hid _ := he3
        have HI : Hid _ := hi
        have hu1 := hu.alloc (.cells #[.int .i64 x.root, .int .i64 x.page, .int .i64 x.dest, .bool x.may, .bool x.lf.there, .bool x.lf.wr, .int .i64 x.lf.fr] 85)
        have hS1 : SlC (wr.alloc (.cells #[.int .i64 x.root, .int .i64 x.page, .int .i64 x.dest, .bool x.may, .bool x.lf.there, .bool x.lf.wr, .int .i64 x.lf.fr] 85)) w0.heap.size u8 fs := World.ownsRow.alloc hS (.cells #[.int .i64 x.root, .int .i64 x.page, .int .i64 x.dest, .bool x.may, .bool x.lf.there, .bool x.lf.wr, .int .i64 x.lf.fr] 85)
        have hnews : ∀ j u, (enCells x)[j]? = some u → ((wr.alloc (.cells #[.int .i64 x.root, .int .i64 x.page, .int .i64 x.dest, .bool x.may, .bool x.lf.there, .bool x.lf.wr, .int .i64 x.lf.fr] 85)).alloc (.cells #[.int .i64 x.root, .int .i64 x.page, .int .i64 x.dest, .bool x.may, .bool x.lf.there, .bool x.lf.wr, .int .i64 x.lf.fr] 85)).cell? ((⟨wr.heap.size + 1, 0, none⟩ : Addr).add j) = some u := by
          intro j u hj
          have := World.cell?_alloc_new (wr.alloc (.cells #[.int .i64 x.root, .int .i64 x.page, .int .i64 x.dest, .bool x.may, .bool x.lf.there, .bool x.lf.wr, .int .i64 x.lf.fr] 85)) (enCells x).toArray 85 j
          simp only [World.size_alloc] at this
          rw [Addr.add_mid, Nat.zero_add, ← hj]
          exact this.trans (by simp)
        have HN : Hid _ := hnews
        have HO : Hid _ := World.ownsRow.alloc hS1 (.cells #[.int .i64 x.root, .int .i64 x.page, .int .i64 x.dest, .bool x.may, .bool x.lf.there, .bool x.lf.wr, .int .i64 x.lf.fr] 85)
        have HB : Hid (w0.heap.size ≤ ((wr.alloc (.cells #[.int .i64 x.root, .int .i64 x.page, .int .i64 x.dest, .bool x.may, .bool x.lf.there, .bool x.lf.wr, .int .i64 x.lf.fr] 85)).alloc (.cells #[.int .i64 x.root, .int .i64 x.page, .int .i64 x.dest, .bool x.may, .bool x.lf.there, .bool x.lf.wr, .int .i64 x.lf.fr] 85)).heap.size) := show _ ≤ _ by have := hu.size; simp only [World.size_alloc]; omega
        have H1 : Hid (∀ u ∈ enCells x, u.oneCell' = true) := show ∀ u ∈ enCells x, _ from fun u hu' => enAll_one [x] u (by simpa [enAll] using hu')
        have HU1 : Hid _ := hu1
        have HS3 : Hid _ := hS1
        clear hnews he1 he2 he3 hi hp hu1 hS1
        go_wp2_with (at_builtin; refine wpList_append_lies _ (by rfl) _ _ 90 (by rfl) w0.heap.size 85 i (.agg zeroEn) 7 48 Try.underlying90 HI.out HE3.out HE1.out HE2.out (by rfl) (by omega) u8 fs.length (enAll fs) (by rfl) HO.out ⟨wr.heap.size + 1, 0, none⟩ 1 1 (enCells x) (by rfl) (by rfl) HN.out H1.out (by omega) (by unfold maxLen; omega) (by omega) HB.out (wr.heap.size + 1 + 1) (by simp) ?_; intro g2 cap2 w2 hown hgrow hat hlt2)
        obtain ⟨hS2, hu2⟩ := SlC.grown HU1.out HS3.out _ hown hgrow
        clear hown hgrow hat hlt2
        go_roundg (es.length - (k + 1))
        case rel => exact ⟨k + 1, by omega, by go_num, by rw [HS2.out]; first | rfl | simp | (simp; go_num), by rw [HS1.out]; exact hS2, hu2⟩
        case measure => have := HK.out; omega
      | true =>
        have t0 := Upd.cell ((Upd.refl (fun _ => False) wr).alloc (.cells #[.int .i64 x.root, .int .i64 x.page, .int .i64 x.dest, .bool x.may, .bool x.lf.there, .bool x.lf.wr, .int .i64 x.lf.fr] 85)) q0 (fun f => f)
        have t1 := Upd.cell ((Upd.refl (fun _ => False) wr).alloc (.cells #[.int .i64 x.root, .int .i64 x.page, .int .i64 x.dest, .bool x.may, .bool x.lf.there, .bool x.lf.wr, .int .i64 x.lf.fr] 85)) q1 (fun f => f)
        have t2 := Upd.cell ((Upd.refl (fun _ => False) wr).alloc (.cells #[.int .i64 x.root, .int .i64 x.page, .int .i64 x.dest, .bool x.may, .bool x.lf.there, .bool x.lf.wr, .int .i64 x.lf.fr] 85)) q2 (fun f => f)
        have hp : pnt d l x = { x with lf := l } := by simp [pnt, hd]
        rw [hp] at HS1
        rw [hd] at HS2
        obtain ⟨i, hi, he⟩ := Option.map_eq_some_iff.1 infoEn
        simp only [Prod.mk.injEq] at he
        obtain ⟨he1, he2, he3⟩ := he
        have HE1 : Hid _ := he1
        have HE2 : Hid _ := he2
        have HE3 : Hid _ := he3
        have HI : Hid _ := hi
        have hu1 := hu.alloc (.cells #[.int .i64 x.root, .int .i64 x.page, .int .i64 x.dest, .bool x.may, .bool l.there, .bool l.wr, .int .i64 l.fr] 85)
        have hS1 : SlC (wr.alloc (.cells #[.int .i64 x.root, .int .i64 x.page, .int .i64 x.dest, .bool x.may, .bool l.there, .bool l.wr, .int .i64 l.fr] 85)) w0.heap.size u8 fs := World.ownsRow.alloc hS (.cells #[.int .i64 x.root, .int .i64 x.page, .int .i64 x.dest, .bool x.may, .bool l.there, .bool l.wr, .int .i64 l.fr] 85)
        have hnews : ∀ j u, (enCells { x with lf := l })[j]? = some u → ((wr.alloc (.cells #[.int .i64 x.root, .int .i64 x.page, .int .i64 x.dest, .bool x.may, .bool l.there, .bool l.wr, .int .i64 l.fr] 85)).alloc (.cells #[.int .i64 x.root, .int .i64 x.page, .int .i64 x.dest, .bool x.may, .bool l.there, .bool l.wr, .int .i64 l.fr] 85)).cell? ((⟨wr.heap.size + 1, 0, none⟩ : Addr).add j) = some u := by
          intro j u hj
          have := World.cell?_alloc_new (wr.alloc (.cells #[.int .i64 x.root, .int .i64 x.page, .int .i64 x.dest, .bool x.may, .bool l.there, .bool l.wr, .int .i64 l.fr] 85)) (enCells { x with lf := l }).toArray 85 j
          simp only [World.size_alloc] at this
          rw [Addr.add_mid, Nat.zero_add, ← hj]
          exact this.trans (by simp)
        have HN : Hid _ := hnews
        have HO : Hid _ := World.ownsRow.alloc hS1 (.cells #[.int .i64 x.root, .int .i64 x.page, .int .i64 x.dest, .bool x.may, .bool l.there, .bool l.wr, .int .i64 l.fr] 85)
        have HB : Hid (w0.heap.size ≤ ((wr.alloc (.cells #[.int .i64 x.root, .int .i64 x.page, .int .i64 x.dest, .bool x.may, .bool l.there, .bool l.wr, .int .i64 l.fr] 85)).alloc (.cells #[.int .i64 x.root, .int .i64 x.page, .int .i64 x.dest, .bool x.may, .bool l.there, .bool l.wr, .int .i64 l.fr] 85)).heap.size) := show _ ≤ _ by have := hu.size; simp only [World.size_alloc]; omega
        have H1 : Hid (∀ u ∈ enCells { x with lf := l }, u.oneCell' = true) := show ∀ u ∈ enCells { x with lf := l }, _ from fun u hu' => enAll_one [{ x with lf := l }] u (by simpa [enAll] using hu')
        have HU1 : Hid _ := hu1
        have HS3 : Hid _ := hS1
        clear hnews he1 he2 he3 hi hp hu1 hS1
        go_wp2_with (at_builtin; refine wpList_append_lies _ (by rfl) _ _ 90 (by rfl) w0.heap.size 85 i (.agg zeroEn) 7 48 Try.underlying90 HI.out HE3.out HE1.out HE2.out (by rfl) (by omega) u8 fs.length (enAll fs) (by rfl) HO.out ⟨wr.heap.size + 1, 0, none⟩ 1 1 (enCells { x with lf := l }) (by rfl) (by rfl) HN.out H1.out (by omega) (by unfold maxLen; omega) (by omega) HB.out (wr.heap.size + 1 + 1) (by simp) ?_; intro g2 cap2 w2 hown hgrow hat hlt2)
        obtain ⟨hS2, hu2⟩ := SlC.grown HU1.out HS3.out _ hown hgrow
        clear hown hgrow hat hlt2
        go_roundg (es.length - (k + 1))
        case rel => exact ⟨k + 1, by omega, by go_num, by rw [HS2.out]; first | rfl | simp | (simp; go_num), by rw [HS1.out]; exact hS2, hu2⟩
        case measure => have := HK.out; omega
    · have ek : k = es.length := by omega
      subst ek
      clear hk HC
      go_wp2_with fail
      go_ret2
      exact ⟨_, rfl, hS.weak (by omega), u0.trans hu (fun _ _ f => f)⟩
end Go.Proofs.Ytadpibcgjgcjhaa
/- undercroftlaw.CacheSays' switch: put, drop, point. -/
namespace Go.Proofs.Ytadpibcgjgcjhaa
open Go.ChangeShapes Go.WideShapes Go.ChangeAt Go.RowKit Go.Shelf
set_option maxRecDepth 1000000
attribute [local go_sem ↓] Go.wp_at_zero Go.wp_at_succ

set_option maxHeartbeats 40000000 in
theorem cs_put (c : Nat → Value) (W w : World) (R Bm bc i q : Nat) (vm sl : Value) (x : Ac) (es : List En) (ds : List Nat) (k0 : (x.kind.toList == [112, 117, 116]) = true) (hB : BoxAt w q x) (hS : CsS W w R Bm bc vm es es ds) (_hq : Bm < q) (_hq2 : bc < q) {Q : Exit → Act → World → Prop} (hm : csPost W R Bm sl i Q) :
    Code.wp Try.prog csSw Q ⟨#[sl, c 1, .pointer (some ⟨R, 0, none⟩), c 3, .pointer (some ⟨bc, 0, none⟩), .pointer (some ⟨Bm, 0, none⟩), .int .i64 i, .pointer (some ⟨q, 0, none⟩), .bool true, c 9, c 10, c 11, c 12, c 13, c 14, c 15, c 16, c 17, c 18, c 19, c 20, c 21, c 22, c 23, c 24, c 25, c 26, c 27, c 28, c 29, c 30, c 31, c 32, c 33, c 34, c 35, c 36, c 37, c 38, c 39, c 40, c 41, c 42, c 43, c 44, c 45, c 46, c 47, c 48, .string x.kind, c 50, c 51, c 52, c 53, c 54, c 55, c 56, c 57, c 58, c 59, c 60, c 61, c 62, c 63, c 64, c 65, c 66, c 67, c 68, c 69, c 70, c 71, c 72, c 73, c 74, c 75, c 76, c 77, c 78, c 79, c 80, c 81, c 82, c 83, c 84, c 85, c 86, c 87, c 88, c 89, c 90, c 91, c 92, c 93, c 94, c 95, c 96, c 97, c 98, c 99, c 100, c 101, c 102, c 103, c 104, c 105, c 106, c 107, c 108, c 109, c 110, c 111, c 112, c 113, c 114, c 115, c 116, c 117, c 118, c 119, c 120, c 121, c 122, c 123, c 124, c 125, c 126, c 127, c 128, c 129, c 130, c 131, c 132, c 133, c 134, c 135, c 136, c 137, c 138, c 139, c 140, c 141, c 142, c 143, c 144, c 145, c 146, c 147, c 148, c 149, c 150, c 151, c 152, c 153, c 154, c 155, c 156, c 157, c 158, c 159, c 160, c 161, c 162, c 163, c 164, c 165, c 166, c 167, c 168, c 169, c 170, c 171, c 172, c 173, c 174, c 175, c 176, c 177, c 178, c 179, c 180, c 181, c 182, c 183, c 184, c 185, c 186, c 187, c 188, c 189, c 190, c 191, c 192, c 193, c 194, c 195, c 196, c 197, c 198, c 199, c 200, c 201, c 202, c 203, c 204, c 205, c 206, c 207, c 208, c 209, c 210, c 211, c 212, c 213, c 214, c 215, c 216, c 217, c 218, c 219, c 220, c 221, c 222, c 223, c 224, c 225, c 226, c 227, c 228, c 229, c 230, c 231, c 232, c 233, c 234, c 235, c 236, c 237, c 238, c 239, c 240, c 241, c 242, c 243, c 244, c 245, c 246, c 247, c 248, c 249, c 250], marks ds⟩ w := by
  have HM : Hid (csPost W R Bm sl i Q) := hm
  have HS : Hid _ := hS
  have HB : Hid _ := hB
  have y1 := hB.c1
  have y2 := hB.c2
  have y3 := hB.c3
  have y4 := hB.c4
  have y5 := hB.c5
  have m0 : w.cell? ⟨Bm, 0, none⟩ = some vm := box_cell hS.pm 0
  have mz : w.frozen? ⟨Bm, 0, none⟩ = false := box_frozen hS.pm 0
  have g1 := hS.g1
  have g2 := hS.g2
  have g3 := hS.g3
  have hle := hS.ca.le
  have hltc := hS.ca.lt
  have hltm : Bm < w.heap.size := (Array.getElem?_eq_some_iff.1 hS.pm).1
  have hltq : q < w.heap.size := World.block_lt_of_cell? w _ y1
  clear hm hS hB
  conv => arg 2; whnf
  have hu0 := (Upd.refl (fun _ => False) w).alloc (.cells #[.int .i64 x.n, .int .i64 x.a, .int .i64 x.b, .bool x.on, .bool (decide (0 < x.v)), .bool false, .int .i64 (wrap64 x.v)] 85)
  have HZ : Hid _ := box_new w #[.int .i64 x.n, .int .i64 x.a, .int .i64 x.b, .bool x.on, .bool (decide (0 < x.v)), .bool false, .int .i64 (wrap64 x.v)] 85
  have HS0 : Hid _ := HS.out.same hu0
  clear hu0 HS HB
  go_wp2_with fail
  refine (kPut_any _ bc es ⟨x.n, x.a, x.b, x.on, ⟨decide (0 < x.v), false, wrap64 x.v⟩⟩ HS0.out.ca).mono ?_
  rintro e w1 ⟨rfl, hc1, hu1⟩
  have HS1 : Hid _ := HS0.out.call hu1 hc1 (dist_putK HS0.out.di _)
  have m1 : w1.cell? ⟨Bm, 0, none⟩ = some vm := box_cell HS1.out.pm 0
  have hbx : w1.heap[w.heap.size]? = some (.cells #[.int .i64 x.n, .int .i64 x.a, .int .i64 x.b, .bool x.on, .bool (decide (0 < x.v)), .bool false, .int .i64 (wrap64 x.v)] 85) := (hu1.block w.heap.size (by simp) (by omega)).trans HZ.out
  have z0 : w1.cell? ⟨w.heap.size, 0, none⟩ = some (.int .i64 x.n) := box_cell hbx 0
  have z1 : w1.cell? ⟨w.heap.size, 1, none⟩ = some (.int .i64 x.a) := box_cell hbx 1
  have z2 : w1.cell? ⟨w.heap.size, 2, none⟩ = some (.int .i64 x.b) := box_cell hbx 2
  have z3 : w1.cell? ⟨w.heap.size, 3, none⟩ = some (.bool x.on) := box_cell hbx 3
  have z4 : w1.cell? ⟨w.heap.size, 4, none⟩ = some (.bool (decide (0 < x.v))) := box_cell hbx 4
  have z5 : w1.cell? ⟨w.heap.size, 5, none⟩ = some (.bool false) := box_cell hbx 5
  have z6 : w1.cell? ⟨w.heap.size, 6, none⟩ = some (.int .i64 (wrap64 x.v)) := box_cell hbx 6
  have HD : Hid (Dist es) := HS0.out.di
  have hz1 : Bm < w1.heap.size ∧ bc < w1.heap.size := by have := hu1.size; simp only [World.size_alloc] at this; omega
  have HZ1 : Hid _ := hz1
  clear hc1 hu1 hbx HZ HS0 y1 y2 y3 y4 y5 m0 mz hz1
  go_wp2_with fail
  refine (cPut_any w1 (Bm + 1) vm es ⟨x.n, x.a, x.b, x.on, ⟨decide (0 < x.v), false, wrap64 x.v⟩⟩ HS1.out.sm (by omega)).mono ?_
  rintro e w2 ⟨v2, rfl, hs2, hu2⟩
  obtain ⟨a2, cap2, rfl, _⟩ := hs2.form
  have HS2 : Hid _ := HS1.out.same hu2
  have m2 : w2.cell? ⟨Bm, 0, none⟩ = some vm := box_cell HS2.out.pm 0
  have f2 : w2.frozen? ⟨Bm, 0, none⟩ = false := box_frozen HS2.out.pm 0
  have HS3 : Hid _ := HS2.out.keep hs2 HZ1.out.1 HZ1.out.2
  clear hs2 hu2 z0 z1 z2 z3 z4 z5 z6 m1 HS1 HS2
  go_wp2_with fail
  exact HM.out.use rfl rfl rfl rfl rfl rfl rfl HS3.out (put_same HD.out hle _).symm

set_option maxHeartbeats 40000000 in
theorem cs_drop (c : Nat → Value) (W w : World) (R Bm bc i q : Nat) (vm sl : Value) (x : Ac) (es : List En) (ds : List Nat) (k0 : (x.kind.toList == [112, 117, 116]) = false) (k1 : (x.kind.toList == [102, 105, 110, 100]) = false) (k2 : (x.kind.toList == [100, 114, 111, 112]) = true) (hB : BoxAt w q x) (hS : CsS W w R Bm bc vm es es ds) (_hq : Bm < q) (_hq2 : bc < q) {Q : Exit → Act → World → Prop} (hm : csPost W R Bm sl i Q) :
    Code.wp Try.prog csSw Q ⟨#[sl, c 1, .pointer (some ⟨R, 0, none⟩), c 3, .pointer (some ⟨bc, 0, none⟩), .pointer (some ⟨Bm, 0, none⟩), .int .i64 i, .pointer (some ⟨q, 0, none⟩), .bool true, c 9, c 10, c 11, c 12, c 13, c 14, c 15, c 16, c 17, c 18, c 19, c 20, c 21, c 22, c 23, c 24, c 25, c 26, c 27, c 28, c 29, c 30, c 31, c 32, c 33, c 34, c 35, c 36, c 37, c 38, c 39, c 40, c 41, c 42, c 43, c 44, c 45, c 46, c 47, c 48, .string x.kind, c 50, c 51, c 52, c 53, c 54, c 55, c 56, c 57, c 58, c 59, c 60, c 61, c 62, c 63, c 64, c 65, c 66, c 67, c 68, c 69, c 70, c 71, c 72, c 73, c 74, c 75, c 76, c 77, c 78, c 79, c 80, c 81, c 82, c 83, c 84, c 85, c 86, c 87, c 88, c 89, c 90, c 91, c 92, c 93, c 94, c 95, c 96, c 97, c 98, c 99, c 100, c 101, c 102, c 103, c 104, c 105, c 106, c 107, c 108, c 109, c 110, c 111, c 112, c 113, c 114, c 115, c 116, c 117, c 118, c 119, c 120, c 121, c 122, c 123, c 124, c 125, c 126, c 127, c 128, c 129, c 130, c 131, c 132, c 133, c 134, c 135, c 136, c 137, c 138, c 139, c 140, c 141, c 142, c 143, c 144, c 145, c 146, c 147, c 148, c 149, c 150, c 151, c 152, c 153, c 154, c 155, c 156, c 157, c 158, c 159, c 160, c 161, c 162, c 163, c 164, c 165, c 166, c 167, c 168, c 169, c 170, c 171, c 172, c 173, c 174, c 175, c 176, c 177, c 178, c 179, c 180, c 181, c 182, c 183, c 184, c 185, c 186, c 187, c 188, c 189, c 190, c 191, c 192, c 193, c 194, c 195, c 196, c 197, c 198, c 199, c 200, c 201, c 202, c 203, c 204, c 205, c 206, c 207, c 208, c 209, c 210, c 211, c 212, c 213, c 214, c 215, c 216, c 217, c 218, c 219, c 220, c 221, c 222, c 223, c 224, c 225, c 226, c 227, c 228, c 229, c 230, c 231, c 232, c 233, c 234, c 235, c 236, c 237, c 238, c 239, c 240, c 241, c 242, c 243, c 244, c 245, c 246, c 247, c 248, c 249, c 250], marks ds⟩ w := by
  have HM : Hid (csPost W R Bm sl i Q) := hm
  have HS : Hid _ := hS
  have HB : Hid _ := hB
  have y1 := hB.c1
  have y2 := hB.c2
  have y3 := hB.c3
  have y4 := hB.c4
  have y5 := hB.c5
  have m0 : w.cell? ⟨Bm, 0, none⟩ = some vm := box_cell hS.pm 0
  have mz : w.frozen? ⟨Bm, 0, none⟩ = false := box_frozen hS.pm 0
  have g1 := hS.g1
  have g2 := hS.g2
  have g3 := hS.g3
  have hle := hS.ca.le
  have hltc := hS.ca.lt
  have hltm : Bm < w.heap.size := (Array.getElem?_eq_some_iff.1 hS.pm).1
  have hltq : q < w.heap.size := World.block_lt_of_cell? w _ y1
  clear hm hS hB
  conv => arg 2; whnf
  go_wp2_with fail
  refine (cFind_any w (Bm + 1) vm es x.a x.b HS.out.sm (by omega)).mono ?_
  rintro e w1 ⟨rfl, hw1⟩
  subst hw1
  have HD : Hid (Dist es) := HS.out.di
  have hds := drop_said es x.a x.b
  have hkd := keep_drop HS.out.di x.a x.b
  have HKD : Hid _ := hkd
  have HDS : Hid _ := hds
  clear hkd hds
  go_wp2_with fail
  refine (cWithout_any w1 (Bm + 1) vm es _ HS.out.sm (by omega)).mono ?_
  rintro e w2 ⟨v2, rfl, hs2, hu2⟩
  obtain ⟨a2, cap2, rfl, _⟩ := hs2.form
  have HS2 : Hid _ := HS.out.same hu2
  have m2 : w2.cell? ⟨Bm, 0, none⟩ = some vm := box_cell HS2.out.pm 0
  have f2 : w2.frozen? ⟨Bm, 0, none⟩ = false := box_frozen HS2.out.pm 0
  have hS3 := HS2.out.keep hs2 (by omega) (by omega)
  have u3 := Upd.one w2 Bm 0 (.slice a2 (keepTo (fun i => (i : Int) != fndI es x.a x.b) es es.length).length cap2)
  have e2 := u3.cell (hu2.cell y2 (fun f => f)) (by simp only; omega)
  have e3 := u3.cell (hu2.cell y3 (fun f => f)) (by simp only; omega)
  have HS3 : Hid _ := hS3
  rw [HKD.out] at HS3 e2 e3 hs2
  rw [HKD.out]
  clear hu2 u3 hS3 y1 y2 y3 y4 y5 m0 mz HS HS2 HB hs2
  generalize hfi : fndI es x.a x.b = fi at *
  have HFI : Hid _ := hfi
  clear hfi
  generalize hfl : (flt (isAt x.a x.b) es).length = fl at *
  have HFL : Hid _ := hfl
  clear hfl
  go_wp2_with fail
  refine (kDrop_any _ bc es x.a x.b HS3.out.ca).mono ?_
  rintro e w4 ⟨rfl, hc4, hu4⟩
  have HS4 : Hid _ := HS3.out.call hu4 hc4 (dist_flt HD.out _)
  rw [HFL.out, HDS.out]
  clear hc4 hu4 HS3 e2 e3 m2 f2
  generalize hdq : decide (0 ≤ fi) = dq
  have hqq : (dq == dq) = true := by simp
  go_wp2_with fail
  exact HM.out.use rfl rfl rfl rfl rfl rfl rfl HS4.out rfl

set_option maxHeartbeats 40000000 in
theorem cs_point (c : Nat → Value) (W w : World) (R Bm bc i q : Nat) (vm sl : Value) (x : Ac) (es : List En) (ds : List Nat) (k0 : (x.kind.toList == [112, 117, 116]) = false) (k1 : (x.kind.toList == [102, 105, 110, 100]) = false) (k2 : (x.kind.toList == [100, 114, 111, 112]) = false) (k3 : (x.kind.toList == [102, 111, 114, 103, 101, 116]) = false) (k4 : (x.kind.toList == [112, 111, 105, 110, 116]) = true) (hB : BoxAt w q x) (hS : CsS W w R Bm bc vm es es ds) (_hq : Bm < q) (_hq2 : bc < q) {Q : Exit → Act → World → Prop} (hm : csPost W R Bm sl i Q) :
    Code.wp Try.prog csSw Q ⟨#[sl, c 1, .pointer (some ⟨R, 0, none⟩), c 3, .pointer (some ⟨bc, 0, none⟩), .pointer (some ⟨Bm, 0, none⟩), .int .i64 i, .pointer (some ⟨q, 0, none⟩), .bool true, c 9, c 10, c 11, c 12, c 13, c 14, c 15, c 16, c 17, c 18, c 19, c 20, c 21, c 22, c 23, c 24, c 25, c 26, c 27, c 28, c 29, c 30, c 31, c 32, c 33, c 34, c 35, c 36, c 37, c 38, c 39, c 40, c 41, c 42, c 43, c 44, c 45, c 46, c 47, c 48, .string x.kind, c 50, c 51, c 52, c 53, c 54, c 55, c 56, c 57, c 58, c 59, c 60, c 61, c 62, c 63, c 64, c 65, c 66, c 67, c 68, c 69, c 70, c 71, c 72, c 73, c 74, c 75, c 76, c 77, c 78, c 79, c 80, c 81, c 82, c 83, c 84, c 85, c 86, c 87, c 88, c 89, c 90, c 91, c 92, c 93, c 94, c 95, c 96, c 97, c 98, c 99, c 100, c 101, c 102, c 103, c 104, c 105, c 106, c 107, c 108, c 109, c 110, c 111, c 112, c 113, c 114, c 115, c 116, c 117, c 118, c 119, c 120, c 121, c 122, c 123, c 124, c 125, c 126, c 127, c 128, c 129, c 130, c 131, c 132, c 133, c 134, c 135, c 136, c 137, c 138, c 139, c 140, c 141, c 142, c 143, c 144, c 145, c 146, c 147, c 148, c 149, c 150, c 151, c 152, c 153, c 154, c 155, c 156, c 157, c 158, c 159, c 160, c 161, c 162, c 163, c 164, c 165, c 166, c 167, c 168, c 169, c 170, c 171, c 172, c 173, c 174, c 175, c 176, c 177, c 178, c 179, c 180, c 181, c 182, c 183, c 184, c 185, c 186, c 187, c 188, c 189, c 190, c 191, c 192, c 193, c 194, c 195, c 196, c 197, c 198, c 199, c 200, c 201, c 202, c 203, c 204, c 205, c 206, c 207, c 208, c 209, c 210, c 211, c 212, c 213, c 214, c 215, c 216, c 217, c 218, c 219, c 220, c 221, c 222, c 223, c 224, c 225, c 226, c 227, c 228, c 229, c 230, c 231, c 232, c 233, c 234, c 235, c 236, c 237, c 238, c 239, c 240, c 241, c 242, c 243, c 244, c 245, c 246, c 247, c 248, c 249, c 250], marks ds⟩ w := by
  have HM : Hid (csPost W R Bm sl i Q) := hm
  have HS : Hid _ := hS
  have HB : Hid _ := hB
  have y1 := hB.c1
  have y2 := hB.c2
  have y3 := hB.c3
  have y4 := hB.c4
  have y5 := hB.c5
  have m0 : w.cell? ⟨Bm, 0, none⟩ = some vm := box_cell hS.pm 0
  have mz : w.frozen? ⟨Bm, 0, none⟩ = false := box_frozen hS.pm 0
  have g1 := hS.g1
  have g2 := hS.g2
  have g3 := hS.g3
  have hle := hS.ca.le
  have hltc := hS.ca.lt
  have hltm : Bm < w.heap.size := (Array.getElem?_eq_some_iff.1 hS.pm).1
  have hltq : q < w.heap.size := World.block_lt_of_cell? w _ y1
  clear hm hS hB
  conv => arg 2; whnf
  have hu0 := (Upd.refl (fun _ => False) w).alloc (.cells #[.bool true, .bool x.on, .int .i64 x.b] 69)
  have HZ : Hid _ := box_new w #[.bool true, .bool x.on, .int .i64 x.b] 69
  have HS0 : Hid _ := HS.out.same hu0
  have m0' := hu0.cell m0 (fun f => f)
  have y2' := hu0.cell y2 (fun f => f)
  have HU0 : Hid _ := hu0
  clear hu0 HS HB
  go_wp2_with fail
  refine (cPoint_any _ (Bm + 1) vm es x.a ⟨true, x.on, x.b⟩ HS0.out.sm (by omega)).mono ?_
  rintro e w2 ⟨v2, rfl, hs2, hu2⟩
  obtain ⟨a2, cap2, rfl, _⟩ := hs2.form
  have HS2 : Hid _ := HS0.out.same hu2
  have m2 : w2.cell? ⟨Bm, 0, none⟩ = some vm := box_cell HS2.out.pm 0
  have f2 : w2.frozen? ⟨Bm, 0, none⟩ = false := box_frozen HS2.out.pm 0
  have hS3 := HS2.out.keep hs2 (by simp; omega) (by simp; omega)
  have u3 := Upd.one w2 Bm 0 (.slice a2 (pntTo x.a ⟨true, x.on, x.b⟩ es es.length).length cap2)
  have hbx := (hu2.block w.heap.size (by simp) (fun f => f)).trans HZ.out
  have hbx3 := (u3.block w.heap.size (Array.getElem?_eq_some_iff.1 hbx).1 (by omega)).trans hbx
  have e2 := u3.cell (hu2.cell y2' (fun f => f)) (by simp only; omega)
  have z0 := box_cell hbx3 0
  have z1 := box_cell hbx3 1
  have z2 := box_cell hbx3 2
  simp only [List.getElem?_toArray, List.getElem?_cons_zero, List.getElem?_cons_succ] at z0 z1 z2
  have HS3 : Hid _ := hS3
  have HD : Hid (Dist es) := HS0.out.di
  clear hu2 u3 hS3 y1 y2 y3 y4 y5 m0 mz HS0 HS2 hs2 hbx hbx3 HZ m0' y2' HU0
  generalize hpl : (pntTo x.a ⟨true, x.on, x.b⟩ es es.length).length = pl at *
  have HPL : Hid _ := hpl
  clear hpl
  go_wp2_with fail
  refine (kPoint_any _ bc es x.a ⟨true, x.on, x.b⟩ HS3.out.ca).mono ?_
  rintro e w4 ⟨rfl, hc4, hu4⟩
  have HS4 : Hid _ := HS3.out.call hu4 hc4 (dist_point HD.out _ _)
  clear hc4 hu4 HS3 e2 z0 z1 z2 m2 f2
  generalize pntN x.a es es.length = dq
  have hqq : ((dq : Int) == (dq : Int)) = true := by simp
  go_wp2_with fail
  exact HM.out.use rfl rfl rfl rfl rfl rfl rfl HS4.out rfl

end Go.Proofs.Ytadpibcgjgcjhaa
