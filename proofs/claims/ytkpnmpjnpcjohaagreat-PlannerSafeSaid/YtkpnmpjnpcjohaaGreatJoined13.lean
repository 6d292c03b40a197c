import Derived.Test.YtkpnmpjnpcjohaaGreatPlanSmalls
import Derived.Test.YtkpnmpjnpcjohaaGreatCertMaths
import Derived.Test.YtkpnmpjnpcjohaaGreatRegions
import Derived.Deep.Cut
import Derived.Deep.CutRange
import Derived.Test.YtkpnmpjnpcjohaaGreatJoined15
set_option linter.unusedSimpArgs false
set_option linter.unusedVariables false
namespace Go.Proofs.YtkpnmpjnpcjohaaGreat
open ChangeShapes WideShapes ChangeAt RowKit Mem FleetMath
namespace Rec
structure CM where
 vs:List Vis
 a:Option Addr
 n:Nat
 c:Nat
abbrev CM.v(r:CM):Value:=.slice r.a r.n r.c
abbrev cmL(r:CM):List Value:=[r.v]
def cmsV(l:List CM):List Value:=l.flatMap cmL
theorem r_b(l:List CM):(cmsV l).length=l.length*1:=by
 induction l with
 |nil=>rfl
 |cons x r ih=>simp only[cmsV,List.flatMap_cons,List.length_append,List.length_cons,List.length_nil]at ih ⊢;omega
theorem k_y(l m:List CM):cmsV (l++m)=cmsV l++cmsV m:=by simp[cmsV]
theorem s_B(r:CM):∀u∈cmL r,u.oneCell'=true:=by
 intro u hu;simp only[List.mem_cons,List.not_mem_nil,or_false]at hu;subst hu;rfl
theorem s_C{l:List CM}{i:Nat}{x:CM}(h:l[i]?=some x):(cmsV l)[i*1+0]?=some x.v:=by
 induction l generalizing i with
 |nil=>cases h
 |cons y r ih=>
  cases i with
  |zero=>simp at h;subst h;rfl
  |succ i=>
   have:=ih (i:=i) (by simpa using h);rw[show(i+1)*1+0=(i*1+0)+1 by omega];exact this
structure Crts(w:World)(B:Nat)(A:Option Addr)(n:Nat)(l:List CM):Prop where
 rows:Recs w B A n 1 (cmsV l)
 each:∀r∈l,Viss w B r.a r.n r.vs∧r.n≤r.c∧r.n*48≤140737488351232
section
variable {w w' : World} {B B' n i : Nat} {A : Option Addr} {l : List CM}
theorem Crts.keep(h:Crts w B A n l)(hb:Below B w w'):Crts w' B A n l:=⟨Recs.keep h.rows hb,fun r hr=>⟨Recs.keep (h.each r hr).1 hb,(h.each r hr).2⟩⟩
theorem Crts.length(h:Crts w B A n l):l.length=n:=by have:=h.rows.1;rw[r_b]at this;omega
theorem Crts.at_(h:Crts w B A n l)(hi:i<n):∃b off x,A=some ⟨b,off,none⟩∧b<B∧l[i]?=some x∧l.drop i=x::l.drop (i+1)∧w.cell? ⟨b,off+i,none⟩=some (.slice x.a x.n x.c)∧Viss w B x.a x.n x.vs∧x.n≤x.c∧x.n*48≤140737488351232:=by
 obtain⟨b,off,e,hb,hc⟩:=Recs.at_ h.rows hi;have hlt:i<l.length:=by rw[h.length];exact hi
 have hx:=List.getElem?_eq_getElem hlt;have h0:=hc 0 _ (s_C hx);rw[Nat.mul_one,Nat.add_zero]at h0;exact⟨b,off,_,e,hb,hx,List.drop_eq_getElem_cons hlt,h0,h.each _ (List.getElem_mem hlt)⟩
theorem Crts.cells{b off:Nat}{x:CM}(h:Crts w B (some ⟨b,off,none⟩) n l)(hx:l[i]?=some x):b<B∧w.cell? ⟨b,off+i,none⟩=some (.slice x.a x.n x.c)∧Viss w B x.a x.n x.vs∧x.n≤x.c∧x.n*48≤140737488351232:=by
 have hlt:=(List.getElem?_eq_some_iff.1 hx).1;obtain⟨b',off',y,e,hb,hy,_,h0,h1⟩:=h.at_ (i:=i) (by rw[← h.length];exact hlt);injection e with e;injection e with e1 e2;subst e1 e2;rw[hx]at hy;injection hy with hy;subst hy;exact⟨hb,h0,h1⟩
end
theorem s_b:(Tryz.prog.info? 164).map (fun i=>(i.zero,i.size,i.bytes))=some (some (.slice none 0 0),1,24):=by kernel_rfl
end Rec
namespace Cert
open PlanMath Rec Plan
structure NewC(w0 w:World)(v:Value)(l:List CM):Prop where
 old:Below w0.heap.size w0 w
 own:OwnK w w0.heap.size 164 1 v l.length (cmsV l)
 each:∀r∈l,OwnK w w0.heap.size 245 6 r.v r.n (c_p r.vs)∧Two r.v v
 apart:l.Pairwise fun a b=>Two b.v a.v
section
variable {w0 w w' : World} {v v' u u' : Value} {l : List CM}
theorem NewC.keep(h:NewC w0 w v l)(hb:Below w.heap.size w w'):NewC w0 w' v l:=
 ⟨h.old.trans (hb.mono h.old.size),h.own.keep hb (Nat.le_refl _),fun r hr=>⟨(h.each r hr).1.keep hb (Nat.le_refl _),(h.each r hr).2⟩,h.apart⟩
structure RowC(w0 w:World)(v:Value)(l:List CM)(r:CM):Prop where
 cert:NewC w0 w v l
 own:OwnK w w0.heap.size 245 6 r.v r.n (c_p r.vs)
 two:Two r.v v
 far:∀q∈l,Two r.v q.v
theorem NewC.row{r:CM}(h:NewC w0 w v l)(hb:Below w.heap.size w w')(ho:OwnK w' w.heap.size 245 6 r.v r.n (c_p r.vs)):RowC w0 w' v l r:=
 ⟨h.keep hb,ho.lower h.old.size,(fun g hg hv=>by have h1:=(a_8 ho hg).1;have h2:=(a_8 h.own hv).2;omega),fun q hq g hg hv=>by have h1:=(a_8 ho hg).1;have h2:=(a_8 (h.each q hq).1 hv).2;omega⟩
theorem RowC.keep{r:CM}(h:RowC w0 w v l r)(hb:Below w.heap.size w w'):RowC w0 w' v l r:=⟨h.cert.keep hb,h.own.keep hb (Nat.le_refl _),h.two,h.far⟩
theorem RowC.push{r:CM}(h:RowC w0 w v l r)(ho:OwnK w' w0.heap.size 164 1 v' (l.length+1) (cmsV l++cmL r))(hg:w.grownBy w' v.ownBlock)
 (hn:v'.ownBlock=v.ownBlock∨v'.ownBlock=some w.heap.size):NewC w0 w' v' (l++[r]):=by
 refine⟨h.cert.own.below h.cert.old hg h.cert.old.size (Nat.le_refl _),?_,fun q hq=>?_,List.pairwise_append.2 ⟨h.cert.apart,List.pairwise_singleton _ _,fun a ha b hb=>by
  obtain rfl:b=r:=by simpa using hb
  exact h.far a ha⟩⟩
 ·rw[List.length_append,k_y]
  have e:cmsV [r]=cmL r:=by simp[cmsV]
  rw[e];exact ho
 ·rcases List.mem_append.1 hq with hq|hq
  ·obtain⟨h1,h2⟩:=h.cert.each q hq
   exact⟨h1.other hg fun g hv hu=>h2 g hv hu,h2.grown h1 hn⟩
  ·obtain rfl:q=r:=by simpa using hq
   exact⟨h.own.other hg fun g hv hu=>h.two g hv hu,h.two.grown h.own hn⟩
end
end Cert
namespace Cert
open GeoMath PlanMath CertMath Rec Geo Span Deal Route Plan
def t_k:Drv:=⟨0,0,0,⟨0,0⟩,false⟩
def f_s:Option Drv→Value
 |none=>.tuple #[drvV t_k,.bool false]
 |some d=>.tuple #[drvV d,.bool true]
structure Made(w w':World)(v:Value)(l:List CM)(c:List (List Vis)):Prop where
 new:NewC w w' v l
 vss:l.map (·.vs)=c
 few:∀r∈l,r.n*48≤140737488351232
def s_c(w:World)(r:List (List Vis)×Nat×Int)(e:Ending)(w':World):Prop:=
 ∃v l,e=.returned (.tuple #[v,faultV r.2.1 r.2.2])∧Made w w' v l r.1
theorem h_q{w w':World}{k:Nat}{e:Int}{r:List (List Vis)×Nat×Int}(h:r=([],k,e))(hb:Below w.heap.size w w'):s_c w r (.returned (.tuple #[.slice none 0 0,faultV k e])) w':=by
 subst h;exact⟨_,[],rfl,⟨⟨hb,OwnK.nil _ _ _ _,(fun r h=>by cases h),List.Pairwise.nil⟩,rfl,fun r h=>by cases h⟩⟩
abbrev FX(w:World):World:=w.alloc (.cells #[.int .i64 0,.int .i64 0] 108)
section
variable {w wr w' : World} {p : List RM} {v v' : Value} {l : List CM} {k : Nat}
theorem FX.below(w:World):Below w.heap.size w (FX w):=(Below.refl _ _).alloc (Nat.le_refl _) _
theorem FX.size(w:World):(FX w).heap.size=w.heap.size+1:=by simp
end
end Cert
namespace Cert
open GeoMath PlanMath CertMath Rec Geo Deal Keep Plan
structure CR(W:World)(q r:Option Addr)(m:Option Mp)(x:Wd)(ds:List Drv)(os:List FleetMath.Ord)(ps:List RM)(u:World):Prop where
 old:Below W.heap.size W u
 map:MapP u 92 W.heap.size (.pointer q) m
 rmap:MapP u 171 W.heap.size (.pointer r) m
 wd:WBox u W.heap.size x
 ds0:Drvs W W.heap.size x.ds.a x.ds.n ds
 os0:Ords W W.heap.size x.os.a x.os.n os
 pl0:Plns W W.heap.size x.pl.a x.pl.n ps
section
variable {W u u' : World} {q r : Option Addr} {m : Option Mp} {x : Wd} {ds : List Drv} {os : List FleetMath.Ord} {ps : List RM}
theorem CR.below(h:CR W q r m x ds os ps u)(hb:Below u.heap.size u u'):CR W q r m x ds os ps u':=
 ⟨h.old.trans (hb.mono h.old.size),h.map.keep hb,h.rmap.keep hb,h.wd.below hb,h.ds0,h.os0,h.pl0⟩
theorem CR.drvs(h:CR W q r m x ds os ps u):Drvs u u.heap.size x.ds.a x.ds.n ds:=Recs.more (Recs.keep h.ds0 h.old) h.old.size
theorem CR.ords(h:CR W q r m x ds os ps u):Ords u u.heap.size x.os.a x.os.n os:=Recs.more (Recs.keep h.os0 h.old) h.old.size
theorem CR.plns(h:CR W q r m x ds os ps u):Plns u u.heap.size x.pl.a x.pl.n ps:=(h.pl0.keep h.old).more h.old.size
theorem CR.start{n0:Nat}{ts:List Int}{e:Ending}{w0 w1:World}(h0:Below W.heap.size W w0)(hw:WBox w0 W.heap.size x)(hd:Drvs W W.heap.size x.ds.a x.ds.n ds)(ho:Ords W W.heap.size x.os.a x.os.n os)(hp:Plns W W.heap.size x.pl.a x.pl.n ps)
 (hm:f_r x.n ts=m) (h:o_T w0 (f_r x.n ts) e w1):∃q r,e=.returned (.tuple #[.pointer q,.pointer r,.bool true])∧CR W q r m x ds os ps w1:=by
 obtain⟨hb,q,r,rfl,hq,hr⟩:=h;rw[hm]at hq hr;exact⟨q,r,rfl,h0.trans (hb.mono h0.size),hq.lower h0.size,hr.lower h0.size,hw.below hb,hd,ho,hp⟩
end
end Cert
end Go.Proofs.YtkpnmpjnpcjohaaGreat
