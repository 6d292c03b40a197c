import Derived.Test.YtkpnmpjnpcjohaaGreatJoined16
import Derived.Maps.OwnSet
import Derived.DeepKeys4
set_option linter.unusedVariables false
set_option maxRecDepth 100000
namespace Go.Proofs.YtkpnmpjnpcjohaaGreat
open ChangeShapes WideShapes ChangeAt RowKit Mem FleetMath PlanMath Rec
namespace Plan
theorem r_s(s:Stp):∀u∈[Value.int .i64 s.ord,Value.bool s.drop],u.oneCell'=true:=by
 intro u hu;simp only[List.mem_cons,List.not_mem_nil,or_false]at hu;rcases hu with rfl|rfl<;>rfl
abbrev _root_.Go.Proofs.YtkpnmpjnpcjohaaGreat.Rec.RM.v(r:RM):Value:=.slice r.a r.n r.c
theorem a_8{w:World}{base k n:Nat}{e:TypeId}{v:Value}{vs:List Value}(h:OwnK w base e k v n vs){g:Nat}(hg:v.ownBlock=some g):base≤g∧g<w.heap.size:=by
 rcases h.1.2 with⟨rfl,_⟩|⟨b,cap,cur,rfl,hb,hh,_⟩
 ·cases hg
 ·have:b=g:=by simpa[Value.ownBlock]using hg
  subst this;refine⟨hb,?_⟩;rcases Nat.lt_or_ge b w.heap.size with hlt|hge
  ·exact hlt
  ·rw[Array.getElem?_eq_none hge]at hh;cases hh
def Two(u v:Value):Prop:=∀g,u.ownBlock=some g→v.ownBlock≠some g
theorem Two.symm{u v:Value}(h:Two u v):Two v u:=fun g hv hu=>h g hu hv
theorem Two.nil(v:Value):Two (.slice none 0 0) v:=fun g h=>by cases h
theorem Two.grown{w:World}{base k n:Nat}{e:TypeId}{u v v':Value}{vs:List Value}(h:Two u v)(hu:OwnK w base e k u n vs)(hn:v'.ownBlock=v.ownBlock∨v'.ownBlock=some w.heap.size):Two u v':=by
 intro g hg;rcases hn with hn|hn
 ·rw[hn];exact h g hg
 ·rw[hn]
  intro e;injection e with e;have:=(a_8 hu hg).2;omega
structure NewP(w0 w:World)(v:Value)(l:List RM):Prop where
 old:Below w0.heap.size w0 w
 own:OwnK w w0.heap.size 37 3 v l.length (rmsV l)
 each:∀r∈l,OwnK w w0.heap.size 48 2 r.v r.n (a_D r.rt.stops)∧Two r.v v
section
variable {w0 w w' : World} {v v' u u' : Value} {l : List RM} {s : List Stp}
theorem NewP.keep(h:NewP w0 w v l)(hb:Below w.heap.size w w'):NewP w0 w' v l:=
 ⟨h.old.trans (hb.mono h.old.size),h.own.keep hb (Nat.le_refl _),fun r hr=>⟨(h.each r hr).1.keep hb (Nat.le_refl _),(h.each r hr).2⟩⟩
theorem NewP.plns(h:NewP w0 w v l)(hb:∀r∈l,r.n*16≤140737488351232):∃A c,v=.slice A l.length c∧l.length≤c∧Plns w w.heap.size A l.length l:=by
 obtain⟨A,c,e,hc,hr⟩:=h.own.read;refine⟨A,c,e,hc,hr,fun r hm=>?_⟩;obtain⟨A',c',e',hc',hr'⟩:=(h.each r hm).1.read;injection e' with e1 _ e2;rw[e1,e2];exact⟨hr',hc',hb r hm⟩
end
end Plan
namespace Plan
structure ES(w wr:World)(v:Value)(f:List Stp):Prop where
 old:Below w.heap.size w wr
 own:OwnK wr w.heap.size 48 2 v f.length (a_D f)
theorem ES.nil(w:World):ES w w (.slice none 0 0) []:=⟨Below.refl _ _,OwnK.nil _ _ _ _⟩
theorem ES.keep{w wr w':World}{v:Value}{f:List Stp}(h:ES w wr v f)(hb:Below wr.heap.size wr w'):ES w w' v f:=⟨h.old.trans (hb.mono h.old.size),h.own.keep hb (Nat.le_refl _)⟩
theorem ES.grow{w wr w':World}{v v':Value}{f:List Stp}{x:Stp}(h:ES w wr v f)(ho:OwnK w' w.heap.size 48 2 v' (f.length+1) (a_D f++[.int .i64 x.ord,.bool x.drop]))(hg:wr.grownBy w' v.ownBlock):ES w w' v' (f++[x]):=by
 refine⟨h.own.below h.old hg h.old.size (Nat.le_refl _),?_⟩;rw[List.length_append];have e:a_D (f++[x])=a_D f++[.int .i64 x.ord,.bool x.drop]:=by simp[a_D]
 rw[e];exact ho
theorem p_g{l:List Stp}{j:Nat}{s:Stp}(p:Stp→Bool)(h:l[j]?=some s):(l.take (j+1)).filter p=(l.take j).filter p++(if p s then [s]else []):=by
 rw[List.take_add_one,h];simp only[Option.toList_some,List.filter_append,List.filter_cons,List.filter_nil]
theorem _root_.Go.Proofs.YtkpnmpjnpcjohaaGreat.Rec.Plns.cells{w:World}{B b off n i:Nat}{l:List RM}{x:RM}(h:Plns w B (some ⟨b,off,none⟩) n l)(hx:l[i]?=some x):b<B∧w.cell? ⟨b,off+i*3,none⟩=some (.int .i64 x.rt.drv)∧w.cell? ⟨b,off+i*3+1,none⟩=some (.int .i64 x.rt.served)∧w.cell? ⟨b,off+i*3+2,none⟩=some (.slice x.a x.n x.c)∧Stps w B x.a x.n x.rt.stops∧x.n≤x.c∧x.n*16≤140737488351232:=by
 have hlt:=(List.getElem?_eq_some_iff.1 hx).1;obtain⟨b',off',e,hb,hc⟩:=Recs.at_ h.rows (i:=i) (by rw[← h.length];exact hlt);injection e with e;injection e with e1 e2;subst e1 e2;obtain⟨h0,h1,h2⟩:=o_Y hx;exact⟨hb,hc 0 _ h0,hc 1 _ h1,hc 2 _ h2,h.each _ (List.mem_of_getElem? hx)⟩
theorem g_e:(Tryz.prog.info? 37).map (fun i=>(i.zero,i.size,i.bytes))=some (some (.agg #[.int .i64 0,.int .i64 0,.slice none 0 0]),3,40):=by kernel_rfl
theorem lawI:Go.Maps.Keyed Tryz.prog 3:=Go.Maps.int_keyed Tryz.underlying3
theorem laidOut:laidOutB Tryz.prog=true:=by kernel_rfl
theorem rowS:(48:TypeId)<Tryz.prog.types.size:=of_decide_eq_true (by kernel_rfl)
theorem t_I:(match Tryz.prog.underlying 48 with|some (.array _ _)|some (.struct _)=>true|_=>false)=true:=by rw[Tryz.underlying48]
theorem t_J:Tryz.prog.keyTypeAt 2 48=true:=by kernel_rfl
theorem lawS:Go.Maps.Keyed Tryz.prog 48:=Go.Maps.Keyed.of_law (deep_law_laid laidOut (m:=2) (by omega) rowS t_J t_I)
theorem t_K(w:World):(zeroValue 204).run Tryz.prog w=.ok (.agg #[]) w:=by kernel_rfl
theorem keyS(s:Stp)(h:(Lit.int .i64 s.ord).wf=true):∃k,keyOf Tryz.prog 48 (stpV s)=some k:=by
 have hk:Tryz.prog.keyType 48=true:=by kernel_rfl
 have hc:Tryz.prog.cellsOf 48=2:=by kernel_rfl
 have hs:∃n,Tryz.prog.types.size+1=n+2:=⟨Tryz.prog.types.size-1,by have:=rowS;have h2:0<Tryz.prog.types.size:=Nat.lt_of_le_of_lt (Nat.zero_le _) this;omega⟩;obtain⟨n,hn⟩:=hs;unfold keyOf;rw[Tryz.underlying48];simp only[hk,hn];have hf:(stpV s).formed Tryz.prog 48=true:=by simp[Value.formed,Tryz.underlying48,hc]
 rw[hf];have hi:Tryz.prog.cellsOf 3=1:=by kernel_rfl
 have hb:Tryz.prog.cellsOf 4=1:=by kernel_rfl
 simp[Program.keyLits,Tryz.underlying48,hc,Value.cells,hi,hb,Tryz.underlying3,Tryz.underlying4,h]
theorem e_z{w w':World}{k:TypeId}{R:Value→Option (DataW Unit×List MemPlace)}{b n:Nat}{D:DataW Unit}(h:w.ownsMap Tryz.prog k R b n D)(hb:w'.heap[b]?=w.heap[b]?):w'.ownsMap Tryz.prog k R b n D:=by
 obtain⟨es,clock,h1,r⟩:=h;exact⟨es,clock,by rw[hb];exact h1,r⟩
theorem f_h{w w':World}{b B:Nat}(h:w.mapTurned w' b)(hB:B≤b)(hs:B≤w.heap.size):Below B w w':=(Below.refl B w).grown h.grown hs (fun j hj=>by cases hj;exact hB)
def SetI(w:World)(b n:Nat)(p:Int→Bool):Prop:=∃D:DataW Unit,w.ownsMap Tryz.prog 3 unitElem b n D∧∀x,(Lit.int .i64 x).wf=true→Maps.has D (.int .i64 x)=p x
def SetS(w:World)(b n:Nat)(L:List Stp):Prop:=∃D:DataW Unit,w.ownsMap Tryz.prog 48 unitElem b n D∧(∀ s k,keyOf Tryz.prog 48 (stpV s)=some k→Maps.has D k=decide (s∈L))∧Maps.size D≤L.length∧(Maps.size D=L.length↔L.Nodup)
section
variable {w w' : World} {b n B : Nat} {p : Int → Bool} {L : List Stp}
theorem SetI.lt(h:SetI w b n p):b<w.heap.size:=by obtain⟨D,h,_⟩:=h;exact h.lt
theorem SetS.lt(h:SetS w b n L):b<w.heap.size:=by obtain⟨D,h,_⟩:=h;exact h.lt
theorem SetI.block(h:SetI w b n p)(hb:w'.heap[b]?=w.heap[b]?):SetI w' b n p:=by obtain⟨D,h,r⟩:=h;exact⟨D,e_z h hb,r⟩
theorem SetS.block(h:SetS w b n L)(hb:w'.heap[b]?=w.heap[b]?):SetS w' b n L:=by obtain⟨D,h,r⟩:=h;exact⟨D,e_z h hb,r⟩
theorem SetI.below(h:SetI w b n p)(hb:Below B w w')(hB:b<B):SetI w' b n p:=h.block (hb.block b hB)
theorem SetS.below(h:SetS w b n L)(hb:Below B w w')(hB:b<B):SetS w' b n L:=h.block (hb.block b hB)
theorem SetI.made(w:World):SetI (w.alloc (.map #[] 0)) w.heap.size 0 (fun _=>false):=⟨_,World.ownsMap_made _ _ _ _,fun x _=>rfl⟩
theorem SetS.made(w:World):SetS (w.alloc (.map #[] 0)) w.heap.size 0 []:=⟨_,World.ownsMap_made _ _ _ _,fun s k _=>by simp[Maps.has],Nat.zero_le _,by simp[Maps.size]⟩
end
section
variable {P : Program} {w : World} {ops : Array Oper} {rest : List Oper} {o : Oper} {a : Act} {Q : Exit → Act → World → Prop} {b n : Nat} {p : Int → Bool} {L : List Stp}
theorem r_t(hg:o.guard=none)(m x v:Operand)(hop:o.op=Op.mapUpdate 202 m x v)(s:Stp)(h:SetS w b n L)(hn:n<maxLen)(hw:(Lit.int .i64 s.ord).wf=true)
 (hm:a.eval m=.map (some b)) (hx:a.eval x=stpV s) (hv:a.eval v=.agg #[])
 (hK:∀w',SetS w' b (n+1) (L++[s])→w.mapTurned w' b→wpList Tryz.prog ops Q rest (a.put o.dst undef) w'):wpList Tryz.prog ops Q (o::rest) a w:=by
 obtain⟨D,hown,hh,hz,he⟩:=h;obtain⟨k,hk⟩:=keyS s hw;refine wpList_mapUpdate_in w hg m x v 202 hop 48 204 lawS Tryz.underlying202 unitElem b n D hm hown hn _ _ k hx hv hk (.agg []) [] unitElem_mk ?_;intro w' hown' ht;refine hK w' ⟨_,hown',fun t k' hk'=>?_,?_,?_⟩ ht
 ·by_cases e:k'=k
  ·subst e
   have:t=s:=by
    have:=lawS.inj hk' hk;cases t;cases s;simp only[stpV,Value.agg.injEq,Array.mk.injEq,List.cons.injEq,Value.int.injEq,Value.bool.injEq]at this;simp_all
   rw[Maps.has_put_same hown.isMap (lawS.key hk)];simp[this]
  ·rw[Maps.has_put_other e,hh t k' hk']
   have:t≠s:=fun h=>e (by subst h;rw[hk]at hk';injection hk' with h;exact h.symm);simp[this]
 ·rw[Maps.size_put (hown.tidy lawS),hh s k hk]
  simp only[List.length_append,List.length_cons,List.length_nil];split<;>omega
 ·rw[Maps.size_put (hown.tidy lawS),hh s k hk]
  simp only[List.length_append,List.length_cons,List.length_nil];by_cases hs:s∈L
  ·simp only[hs,decide_true,if_true]
   constructor
   ·intro h;omega
   ·intro h
    rw[List.nodup_append]at h;exact absurd rfl (h.2.2 s hs s (by simp))
  ·simp only[hs,decide_false,Bool.false_eq_true,if_false]
   rw[List.nodup_append];constructor
   ·intro h
    refine⟨he.1 (by omega),by simp,fun z hzz y hy=>?_⟩;obtain rfl:y=s:=by simpa using hy
    intro e;subst e;exact hs hzz
   ·intro h
    have:=he.2 h.1;omega
theorem p_h(hg:o.guard=none)(m:Operand)(hop:o.op=Op.call {callee:=Callee.builtin Builtin.len,args:=#[m],argTypes:=#[202] })(h:SetS w b n L)(hm:a.eval m=.map (some b))
 (hK:∀z:Nat,z≤L.length→(z=L.length↔L.Nodup)→wpList Tryz.prog ops Q rest (a.put o.dst (.int .i64 z)) w):wpList Tryz.prog ops Q (o::rest) a w:=by
 obtain⟨D,hown,hh,hz,he⟩:=h;exact wpList_len_own w hg m 202 hop 48 204 Tryz.underlying202 unitElem b n D hm hown (hK _ hz he)
end
end Plan
namespace Plan
section
variable {P : Program} {w : World} {ops : Array Oper} {rest : List Oper} {o : Oper} {a : Act} {Q : Exit → Act → World → Prop} {b n : Nat} {p : Int → Bool} {L : List Stp}
theorem s_K(hg:o.guard=none)(m x v:Operand)(hop:o.op=Op.mapUpdate 225 m x v)(y:Int)(h:SetI w b n p)(hn:n<maxLen)(hw:(Lit.int .i64 y).wf=true)
 (hm:a.eval m=.map (some b)) (hx:a.eval x=.int .i64 y) (hv:a.eval v=.agg #[])
 (hK:∀w',SetI w' b (n+1) (fun z=>p z || decide (z=y))→w.mapTurned w' b→wpList Tryz.prog ops Q rest (a.put o.dst undef) w'):wpList Tryz.prog ops Q (o::rest) a w:=by
 obtain⟨D,hown,hh⟩:=h;refine wpList_mapUpdate_in w hg m x v 225 hop 3 204 lawI Tryz.underlying225 unitElem b n D hm hown hn _ _ (.int .i64 y) hx hv (Go.Maps.keyOf_int_mk Tryz.underlying3 hw) (.agg []) [] unitElem_mk ?_;intro w' hown' ht;refine hK w' ⟨_,hown',fun z hz=>?_⟩ ht;by_cases e:z=y
 ·subst e
  rw[Maps.has_put_same hown.isMap (by trivial)];simp
 ·rw[Maps.has_put_other (by intro h;injection h with _ h;exact e h),hh z hz]
  simp[e]
theorem s_L(hg:o.guard=none)(m x:Operand)(hop:o.op=Op.call {callee:=Callee.builtin Builtin.delete,args:=#[m,x],argTypes:=#[225,3] })(y:Int)(h:SetI w b n p)(hw:(Lit.int .i64 y).wf=true)
 (hm:a.eval m=.map (some b)) (hx:a.eval x=.int .i64 y)
 (hK:∀w',SetI w' b n (fun z=>p z && !decide (z=y))→w.mapTurned w' b→wpList Tryz.prog ops Q rest (a.put o.dst (.tuple #[])) w'):wpList Tryz.prog ops Q (o::rest) a w:=by
 obtain⟨D,hown,hh⟩:=h;refine wpList_delete_own w hg m x 225 3 hop 204 lawI Tryz.underlying225 unitElem b n D hm hown _ (.int .i64 y) hx (Go.Maps.keyOf_int_mk Tryz.underlying3 hw) ?_;intro w' hown' ht;refine hK w' ⟨_,hown',fun z hz=>?_⟩ ht;by_cases e:z=y
 ·subst e
  rw[Maps.has_del_same];simp
 ·rw[Maps.has_del_other (by intro h;injection h with _ h;exact e h),hh z hz]
  simp[e]
theorem r_u(hg:o.guard=none)(m x:Operand)(hop:o.op=Op.lookup 225 m x true)(y:Int)(h:SetI w b n p)(hw:(Lit.int .i64 y).wf=true)
 (hm:a.eval m=.map (some b)) (hx:a.eval x=.int .i64 y)
 (hK:wpList Tryz.prog ops Q rest (a.put o.dst (.tuple #[.agg #[],.bool (p y)])) w):wpList Tryz.prog ops Q (o::rest) a w:=by
 obtain⟨D,hown,hh⟩:=h;refine wpList_lookup_own_unit w hg m x 225 hop 3 204 lawI Tryz.underlying225 (t_K w) b n D hm hown _ (.int .i64 y) hx (Go.Maps.keyOf_int_mk Tryz.underlying3 hw) ?_;rw[hh y hw];exact hK
theorem l_P(hg:o.guard=none)(m x:Operand)(hop:o.op=Op.lookup 225 m x true)(y:Int)(r:Bool)(hr:p y=r)(h:SetI w b n p)(hw:(Lit.int .i64 y).wf=true)
 (hm:a.eval m=.map (some b)) (hx:a.eval x=.int .i64 y)
 (hK:wpList Tryz.prog ops Q rest (a.put o.dst (.tuple #[.agg #[],.bool r])) w):wpList Tryz.prog ops Q (o::rest) a w:=by
 subst hr;exact r_u hg m x hop y h hw hm hx hK
end
end Plan
end Go.Proofs.YtkpnmpjnpcjohaaGreat
