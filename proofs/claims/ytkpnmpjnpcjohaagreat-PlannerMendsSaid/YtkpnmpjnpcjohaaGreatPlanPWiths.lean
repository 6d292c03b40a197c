import Derived.Test.YtkpnmpjnpcjohaaGreatSlackPs
set_option linter.unusedVariables false
set_option maxHeartbeats 4000000
set_option maxRecDepth 100000
namespace Go.Proofs.YtkpnmpjnpcjohaaGreat
open ChangeShapes WideShapes ChangeAt RowKit Mem FleetMath PlanMath Rec
namespace Plan
theorem k_O(A:Option Addr)(n c:Nat)(l:List Stp)(b m:Nat)(p:Int→Bool)(w:World)(hl:Stps w w.heap.size A n l)(hs:SetI w b m p)(hwf:∀s∈l,(Lit.int .i64 s.ord).wf=true)(hfit:n*16≤140737488351232):
 Calls Tryz.prog 161 #[.slice A n c,.map (some b)] w (fun e w'=>∃v,e=.returned v∧ES w w' v (l.filter fun s=>!p s.ord)):=by
 have hm:=Recs.le hl;have HL:=Lib.hid hl.length;have HI:=Lib.hid hl;have HS:=Lib.hid hs;have HW:=Lib.hid hwf;clear hl hs hwf;go_enter Tryz.func161,Tryz.ntmps161;go_wp2
 go_loopw [5,12] (fun v i wr=>∃(k:Nat),k≤n∧i=.int .i64 k∧Hid (ES w wr v ((l.take k).filter fun s=>!p s.ord))) (fun _ i _=>n-(intOf i).toNat)
 case atStart=>exact⟨0,Nat.zero_le _,rfl,Lib.hid (by rw[List.take_zero];exact ES.nil w)⟩
 case round=>
  obtain⟨k,hk,rfl,HE⟩:=hrel;by_cases hlt:k<n
  ·obtain⟨ba,off,s,rfl,hbb,hsx,hdr,s0,s1⟩:=Stps.at_ (Recs.keep HI.out HE.out.old) hlt
   have HSW:Hid ((Lit.int .i64 s.ord).wf=true):=HW.out s (List.mem_of_getElem? hsx);have HT:=Lib.hid (p_g (fun s=>!p s.ord) hsx);obtain⟨f,hf⟩:∃f,(l.take k).filter (fun s=>!p s.ord)=f:=⟨_,rfl⟩;have hfl:f.length≤k:=by rw[← hf];exact Nat.le_trans (List.length_filter_le _ _) (by simp;omega)
   rw[hf]at HE HT;obtain⟨r,hr⟩:∃r,p s.ord=r:=⟨_,rfl⟩;have HP:=Lib.hid hr;have HS1:Hid (SetI (wr.alloc (.cells #[.int .i64 s.ord,.bool s.drop] 48)) b m p):=HS.out.below (HE.out.old.alloc HE.out.old.size _) HS.out.lt;have HE1:Hid (ES w (wr.alloc (.cells #[.int .i64 s.ord,.bool s.drop] 48)) u5 f):=HE.out.keep ((Below.refl _ _).alloc (Nat.le_refl _) _);have HQ:Hid (Blk (wr.alloc (.cells #[.int .i64 s.ord,.bool s.drop] 48)) wr.heap.size 48 [.int .i64 s.ord,.bool s.drop]):=Blk.new _ _ _;have HE2:Hid (ES w ((wr.alloc (.cells #[.int .i64 s.ord,.bool s.drop] 48)).alloc (.cells #[] 204)) u5 f):=HE1.out.keep ((Below.refl _ _).alloc (Nat.le_refl _) _);clear hsx hdr hf hr HE hbb;cases r with
   |true=>
    have HF:Hid ((l.take (k+1)).filter (fun s=>!p s.ord)=f):=by
     have h:=HT.out;rw[HP.out]at h;simp only[Bool.not_true,Bool.false_eq_true,if_false,List.append_nil]at h;exact h
    clear HT;go_wp2_with (at_lookup;refine l_P rfl _ _ rfl s.ord true HP.out HS1.out HSW.out rfl rfl ?_)
    go_roundw
    case rel=>exact⟨k+1,by omega,by go_num,Lib.hid (by rw[HF.out];exact HE2.out)⟩
    case measure=>simp[intOf];omega
   |false=>
    have HF:Hid ((l.take (k+1)).filter (fun s=>!p s.ord)=f++[s]):=by
     have h:=HT.out;rw[HP.out]at h;simp only[Bool.not_false,if_true]at h;exact h
    have HQ2:Hid (Blk ((wr.alloc (.cells #[.int .i64 s.ord,.bool s.drop] 48)).alloc (.cells #[] 204)) wr.heap.size 48 [.int .i64 s.ord,.bool s.drop]):=HQ.out.below ((Below.refl _ _).alloc (Nat.le_refl _) _) HQ.out.lt;have q0:=HQ2.out.cell (i:=0) rfl;have q1:=HQ2.out.cell (i:=1) rfl;have HE3:Hid (ES w (((wr.alloc (.cells #[.int .i64 s.ord,.bool s.drop] 48)).alloc (.cells #[] 204)).alloc (.cells #[.int .i64 s.ord,.bool s.drop] 48)) u5 f):=HE2.out.keep ((Below.refl _ _).alloc (Nat.le_refl _) _)
    have HB3:Hid (Blk (((wr.alloc (.cells #[.int .i64 s.ord,.bool s.drop] 48)).alloc (.cells #[] 204)).alloc (.cells #[.int .i64 s.ord,.bool s.drop] 48)) (wr.heap.size+1+1) 48 [.int .i64 s.ord,.bool s.drop]):=by
     have h:=Blk.new ((wr.alloc (.cells #[.int .i64 s.ord,.bool s.drop] 48)).alloc (.cells #[] 204)) 48 [.int .i64 s.ord,.bool s.drop];have e:((wr.alloc (.cells #[.int .i64 s.ord,.bool s.drop] 48)).alloc (.cells #[] 204)).heap.size=wr.heap.size+1+1:=by simp
     rw[e]at h;exact h
    clear HT;go_wp2_with (first|(at_lookup;refine l_P rfl _ _ rfl s.ord false HP.out HS1.out HSW.out rfl rfl ?_)|(at_builtin;refine a_x (o:=⟨some 28,_,_,_,_,_⟩) rfl (.tmp 25) (.tmp 27) Tryz.underlying35 e_4 rfl (by decide) rfl HE3.out.own rfl HB3.out rfl rfl (r_s s) (by unfold maxLen;omega) (by omega) HE3.out.old.size ?_;intro vB wB HO2 HG2 HN2;have HQ3:=Lib.hid (HE3.out.grow (x:=s) HO2.out HG2.out);clear HO2 HG2 HN2))
    go_roundw
    case rel=>exact⟨k+1,by omega,by go_num,Lib.hid (by rw[HF.out];exact HQ3.out)⟩
    case measure=>simp[intOf];omega
  ·have hke:k=n:=by omega
   subst hke
   have HF:Hid (ES w wr u5 (l.filter fun s=>!p s.ord)):=by
    have h:=HE.out;rw[List.take_of_length_le (by rw[HL.out];exact Nat.le_refl _)]at h;exact h
   clear HE;go_wp2
   go_ret;exact⟨_,rfl,HF.out⟩
def Made(w w':World)(v:Value)(p:List Rte):Prop:=∃l',NewP w w' v l'∧l'.map (·.rt)=p∧∀r∈l',r.n*16≤140737488351232
theorem r_n:(Tryz.prog.info? 37).map (fun i=>(i.zero,i.size,i.bytes))=some (some (.agg #[.int .i64 0,.int .i64 0,.slice none 0 0]),3,40):=by kernel_rfl
def m_9:RM:=⟨⟨0,0,[]⟩,none,0,0⟩
theorem s_G(n:Nat):(madeCells #[.int .i64 0,.int .i64 0,.slice none 0 0] (n*3)).toList=rmsV (List.replicate n m_9):=by
 induction n with
 |zero=>simp[madeCells,rmsV]
 |succ n ih=>
  rw[show(n+1)*3=n*3+1+1+1 by omega]
  have e:madeCells #[.int .i64 0,.int .i64 0,.slice none 0 0] (n*3+1+1+1)=(((madeCells #[.int .i64 0,.int .i64 0,.slice none 0 0] (n*3)).push (.int .i64 0)).push (.int .i64 0)).push (.slice none 0 0):=by
   unfold madeCells;rw[Array.range_succ,Array.range_succ,Array.range_succ];have e0:(n*3)%3=0:=by omega
   have e1:(n*3+1)%3=1:=by omega
   have e2:(n*3+1+1)%3=2:=by omega
   simp[e0,e1,e2]
  rw[e,Array.toList_push,Array.toList_push,Array.toList_push,ih,List.replicate_succ',b_0,List.append_assoc,List.append_assoc];rfl
structure Fill(w0 w:World)(g n:Nat)(l:List RM):Prop where
 old:Below w0.heap.size w0 w
 ge:w0.heap.size≤g
 le:l.length≤n
 blk:Blk w g 37 (rmsV (l++List.replicate (n-l.length) m_9))
 each:∀r∈l,OwnK w w0.heap.size 48 2 r.v r.n (a_D r.rt.stops)∧Two r.v (.slice (some ⟨g,0,none⟩) n n)
theorem n_a{w:World}{base g k n:Nat}{e:TypeId}{vs:List Value}(h:Blk w g e vs)(hg:base≤g)(hl:vs.length=n*k)(hm:n≤maxLen):OwnK w base e k (.slice (some ⟨g,0,none⟩) n n) n vs:=
 ⟨⟨by rw[hl],.inr ⟨g,n,vs.toArray,rfl,hg,h,Nat.le_refl _,hm,by simp[hl],by simp[← hl]⟩⟩,hm⟩
theorem Fill.start{w0 w:World}{n:Nat}(hb:Below w0.heap.size w0 w):Fill w0 (w.alloc (.cells (madeCells #[.int .i64 0,.int .i64 0,.slice none 0 0] (n*3)) 37)) w.heap.size n []:=by
 refine⟨hb.alloc hb.size _,hb.size,Nat.zero_le _,?_,fun r h=>by cases h⟩;rw[List.nil_append,List.length_nil,Nat.sub_zero,←s_G];unfold Blk;rw[Array.toArray_toList];exact heap_alloc_new w _
theorem Fill.keep{w0 w w':World}{g n:Nat}{l:List RM}(h:Fill w0 w g n l)(hb:Below w.heap.size w w'):Fill w0 w' g n l:=
 ⟨h.old.trans (hb.mono h.old.size),h.ge,h.le,h.blk.below hb h.blk.lt,fun r hr=>⟨(h.each r hr).1.keep hb (Nat.le_refl _),(h.each r hr).2⟩⟩
theorem Fill.done{w0 w:World}{g n:Nat}{l:List RM}(h:Fill w0 w g n l)(hn:l.length=n)(hm:n≤maxLen):NewP w0 w (.slice (some ⟨g,0,none⟩) n n) l:=by
 have hb:=h.blk;rw[hn,Nat.sub_self,List.replicate_zero,List.append_nil]at hb;refine⟨h.old,?_,h.each⟩;rw[hn];exact n_a hb h.ge (by rw[e_o,hn]) hm
theorem Fill.next{w0 w:World}{g n:Nat}{l:List RM}(h:Fill w0 w g n l)(hn:l.length<n):∀j,j<3→(∃ u,w.cell? ⟨g,l.length*3+j,none⟩=some u)∧w.frozen? ⟨g,l.length*3+j,none⟩=false:=by
 intro j hj;refine⟨?_,h.blk.free _⟩
 have hlt:l.length*3+j<(rmsV (l++List.replicate (n-l.length) m_9)).length:=by
  rw[e_o,List.length_append,List.length_replicate];omega
 exact⟨_,h.blk.cell (List.getElem?_eq_getElem hlt)⟩
abbrev put3(w:World)(g o:Nat)(r:RM):World:=((w.setCell ⟨g,o,none⟩ (.int .i64 r.rt.drv)).setCell ⟨g,o+1,none⟩ (.int .i64 r.rt.served)).setCell ⟨g,o+2,none⟩ r.v
theorem r_o(l:List RM)(z r:RM)(t:List RM):(((rmsV (l++z::t)).set (l.length*3) (.int .i64 r.rt.drv)).set (l.length*3+1) (.int .i64 r.rt.served)).set (l.length*3+2) r.v=rmsV (l++r::t):=by
 rw[b_0,b_0];have e:(rmsV l).length=l.length*3:=e_o l;have e1:rmsV (z::t)=.int .i64 z.rt.drv::.int .i64 z.rt.served::.slice z.a z.n z.c::rmsV t:=rfl;have e2:rmsV (r::t)=.int .i64 r.rt.drv::.int .i64 r.rt.served::.slice r.a r.n r.c::rmsV t:=rfl;rw[e1,e2,←e,List.set_append_right _ _ (Nat.le_refl _),Nat.sub_self,List.set_append_right _ _ (by omega),List.set_append_right _ _ (by omega),Nat.add_sub_cancel_left,Nat.add_sub_cancel_left];rfl
theorem Fill.put{w0 w:World}{g n:Nat}{l:List RM}{r:RM}(h:Fill w0 w g n l)(hn:l.length<n)(ho:OwnK w w0.heap.size 48 2 r.v r.n (a_D r.rt.stops))(ht:Two r.v (.slice (some ⟨g,0,none⟩) n n)):
 Fill w0 (put3 w g (l.length*3) r) g n (l++[r]):=by
 have hne:∀(r:RM),Two r.v (.slice (some ⟨g,0,none⟩) n n)→∀q,r.v.ownBlock=some q→q≠g:=fun r h2 q hq e=>by
  subst e;exact h2 q hq rfl
 have hoth:∀q,q≠g→(put3 w g (l.length*3) r).heap[q]?=w.heap[q]? :=fun q hq=>
  (Below.heap_setCell _ _ _ _ hq).trans ((Below.heap_setCell _ _ _ _ hq).trans (Below.heap_setCell _ _ _ _ hq))
 have hown:∀(x:RM),OwnK w w0.heap.size 48 2 x.v x.n (a_D x.rt.stops)→Two x.v (.slice (some ⟨g,0,none⟩) n n)→OwnK (put3 w g (l.length*3) r) w0.heap.size 48 2 x.v x.n (a_D x.rt.stops):=by
  rintro x ⟨⟨h1,h2⟩,h3⟩ h4;refine⟨⟨h1,?_⟩,h3⟩;rcases h2 with h2|⟨q,cap,cur,e,hq,hh,hr⟩
  ·exact .inl h2
  ·exact .inr ⟨q,cap,cur,e,hq,(hoth q (hne x h4 q (by rw[e];rfl))).trans hh,hr⟩
 refine⟨((h.old.setCell h.ge _).setCell h.ge _).setCell h.ge _,h.ge,by rw[List.length_append];exact hn,?_,fun x hx=>?_⟩
 ·have hb:=((h.blk.put (l.length*3) (.int .i64 r.rt.drv)).put (l.length*3+1) (.int .i64 r.rt.served)).put (l.length*3+2) r.v
  have e:List.replicate (n-l.length) m_9=m_9::List.replicate (n-(l++[r]).length) m_9:=by
   rw[List.length_append,List.length_singleton,show n-l.length=(n-(l.length+1))+1 by omega,List.replicate_succ]
  rw[e,r_o]at hb;rw[List.append_assoc];exact hb
 ·rcases List.mem_append.1 hx with hx|hx
  ·exact⟨hown x (h.each x hx).1 (h.each x hx).2,(h.each x hx).2⟩
  ·obtain rfl:x=r:=by simpa using hx
   exact⟨hown x ho ht,ht⟩
theorem g_b{w:World}{b n:Nat}{p q:Int→Bool}(h:SetI w b n p)(e:∀z,p z=q z):SetI w b n q:=by
 have:p=q:=funext e;rwa[← this]
def outP(os:List Int)(p:List Rte)(s:List Stp)(z:Int):Bool:=decide (z∈os) && !(a_Q p z || s.any fun t=>decide (t.ord=z))
theorem p_f{os:List Int}{p:List Rte}{s:List Stp}{t:Stp}(z:Int):(outP os p s z && !decide (z=t.ord))=outP os p (s++[t]) z:=by
 unfold outP;rw[List.any_append];simp only[List.any_cons,List.any_nil,Bool.or_false];have e:decide (t.ord=z)=decide (z=t.ord):=by simp[eq_comm]
 rw[e];cases decide (z∈os)<;>cases a_Q p z<;>cases(s.any fun t=>decide (t.ord=z))<;>cases decide (z=t.ord)<;>rfl
theorem n_b{os:List Int}{p:List Rte}{x:Rte}(z:Int):outP os p (b_G x) z=outP os (p++[x]) [] z:=by
 unfold outP a_Q;rw[List.any_append];simp
structure WI(w wr:World)(m:Nat)(p:Int→Bool):Prop where
 old:Below w.heap.size w wr
 set:SetI wr w.heap.size m p
theorem WI.below{w wr w':World}{m:Nat}{p:Int→Bool}(h:WI w wr m p)(hb:Below wr.heap.size wr w'):WI w w' m p:=⟨h.old.trans (hb.mono h.old.size),h.set.below hb h.set.lt⟩
theorem WI.turn{w wr w':World}{m m':Nat}{p q:Int→Bool}(h:WI w wr m p)(hs:SetI w' w.heap.size m' q)(ht:wr.mapTurned w' w.heap.size):WI w w' m' q:=⟨h.old.trans (f_h ht (Nat.le_refl _) h.old.size),hs⟩
def exR(p:Int→Bool)(r:Rte):Rte:=⟨r.drv,r.served,r.stops.filter fun s=>!p s.ord⟩
structure FS(w wr:World)(g n m:Nat)(p:Int→Bool)(l:List RM)(k:Nat)(l':List RM):Prop where
 wi:WI w wr m p
 fill:Fill w wr g n l'
 rts:l'.map (·.rt)=(l.take k).map fun r=>exR p r.rt
 fits:∀r∈l',r.n*16≤140737488351232
 far:w.heap.size<g
 len:l'.length=k
theorem FS.keep{w wr w':World}{g n m k:Nat}{p:Int→Bool}{l l':List RM}(h:FS w wr g n m p l k l')(hb:Below wr.heap.size wr w'):FS w w' g n m p l k l':=⟨h.wi.below hb,h.fill.keep hb,h.rts,h.fits,h.far,h.len⟩
theorem FS.next{w wr w1 w':World}{g n m k:Nat}{p:Int→Bool}{l l':List RM}{x:RM}{v:Value}{A:Option Addr}{c:Nat}(h:FS w wr g n m p l k l')(hk:k<n)(hx:l[k]?=some x)(hb:Below wr.heap.size wr w1)
 (he:ES w1 w' v (x.rt.stops.filter fun s=>!p s.ord)) (hv:v=.slice A (x.rt.stops.filter fun s=>!p s.ord).length c) (hm:(x.rt.stops.filter fun s=>!p s.ord).length*16≤140737488351232):
 FS w (put3 w' g (k*3) ⟨exR p x.rt,A,(x.rt.stops.filter fun s=>!p s.ord).length,c⟩) g n m p l (k+1) (l'++[⟨exR p x.rt,A,(x.rt.stops.filter fun s=>!p s.ord).length,c⟩]):=by
 have hs:=h.wi.old.size;have hs1:=hb.size;have hb':Below wr.heap.size wr w':=hb.trans (he.old.mono hs1);have h1:=h.keep hb'
 have ho:OwnK w' w.heap.size 48 2 (.slice A (x.rt.stops.filter fun s=>!p s.ord).length c) (x.rt.stops.filter fun s=>!p s.ord).length (a_D (x.rt.stops.filter fun s=>!p s.ord)):=by
  rw[← hv];exact he.own.lower (by omega)
 have hgl:g<w1.heap.size:=Nat.lt_of_lt_of_le h.fill.blk.lt hs1
 have ht:Two (.slice A (x.rt.stops.filter fun s=>!p s.ord).length c) (.slice (some ⟨g,0,none⟩) n n):=by
  intro q hq e;rw[← hv]at hq;have:=(a_8 he.own hq).1;have e':g=q:=by simpa[Value.ownBlock]using e
  omega
 have hf:=h1.fill.put (r:=⟨exR p x.rt,A,(x.rt.stops.filter fun s=>!p s.ord).length,c⟩) (by rw[h.len];exact hk) ho ht;rw[h.len]at hf;have hne:w.heap.size≠g:=Nat.ne_of_lt h.far;refine⟨⟨hf.old,h1.wi.set.block ?_⟩,hf,?_,fun r hr=>?_,h.far,by rw[List.length_append,h.len];rfl⟩
 ·exact(Below.heap_setCell _ _ _ _ hne).trans ((Below.heap_setCell _ _ _ _ hne).trans (Below.heap_setCell _ _ _ _ hne))
 ·rw[List.map_append,h.rts,List.take_add_one,hx,List.map_append]
  rfl
 ·rcases List.mem_append.1 hr with hr|hr
  ·exact h.fits r hr
  ·obtain rfl:r=_:=by simpa using hr
   exact hm
theorem FS.cells{w wr:World}{g n m k:Nat}{p:Int→Bool}{l l':List RM}(h:FS w wr g n m p l k l')(hk:k<n):(∃ u,wr.cell? ⟨g,k*3,none⟩=some u)∧wr.frozen? ⟨g,k*3,none⟩=false∧(∃ u,wr.cell? ⟨g,k*3+1,none⟩=some u)∧wr.frozen? ⟨g,k*3+1,none⟩=false∧(∃ u,wr.cell? ⟨g,k*3+2,none⟩=some u)∧wr.frozen? ⟨g,k*3+2,none⟩=false:=by
 have:=h.fill.next (by rw[h.len];exact hk);rw[h.len]at this;obtain⟨a0,b0⟩:=this 0 (by omega);obtain⟨a1,b1⟩:=this 1 (by omega);obtain⟨a2,b2⟩:=this 2 (by omega);exact⟨a0,b0,a1,b1,a2,b2⟩
theorem s_H(l:List RM)(os:List Int):(l.map fun r=>exR (outP os (l.map (·.rt)) []) r.rt)=a_b (l.map (·.rt)) os:=by
 unfold a_b;rw[List.map_map];refine List.map_congr_left fun r _=>?_;simp only[Function.comp_apply,exR,Rte.mk.injEq,true_and];refine List.filter_congr fun s _=>?_;simp only[outP,List.any_nil,Bool.or_false];cases decide (s.ord∈os)<;>cases a_Q (l.map (·.rt)) s.ord<;>rfl
theorem n_c(p:Stp→Bool)(l:List Stp){n:Nat}(h:l.length=n):(l.filter p).length≤n:=by rw[← h];exact List.length_filter_le _ _
theorem c_F(A:Option Addr)(n c:Nat)(l:List RM)(A2:Option Addr)(m c2:Nat)(os:List Int)(w:World)(hl:Plns w w.heap.size A n l)(hn40:n*40≤140737488351232)(ho:Ints w w.heap.size A2 m os)
 (hw1:∀r∈l,∀s∈r.rt.stops,(Lit.int .i64 s.ord).wf=true) (hw2:∀z∈os,(Lit.int .i64 z).wf=true):
 Calls Tryz.prog 96 #[.slice A n c,.slice A2 m c2] w (fun e w'=>∃v,e=.returned v∧Made w w' v (a_b (l.map (·.rt)) os)):=by
 have hm:=Recs.le hl.rows;have hm2:=Reads.le ho;have HL:=Lib.hid hl.length;have HL2:=Lib.hid ho.length;have HI:=Lib.hid hl;have HO:=Lib.hid ho;have HW1:=Lib.hid hw1;have HW2:=Lib.hid hw2;have hmm:=@run_makeMap Tryz.prog
 have hmk:∀u:World,(Instr.makeSlice 39 (.int .i64 (n:Int)) (.int .i64 (n:Int))).run Tryz.prog u=.ok (.slice (some ⟨u.heap.size,0,none⟩) n n) (u.alloc (.cells (madeCells #[.int .i64 0,.int .i64 0,.slice none 0 0] (n*3)) 37)):=fun u=>by
  obtain⟨i0,hi,hz0,hz1,hz2⟩:=info_parts r_n;have h:=run_make (P:=Tryz.prog) u 39 37 i0 (.agg #[.int .i64 0,.int .i64 0,.slice none 0 0]) Tryz.underlying39 hi hz0 .i64 .i64 (n:Int) (n:Int) (by omega) (Int.le_refl _) (by rw[hz2];omega) (by omega);rw[Int.toNat_natCast,hz1]at h;exact h
 have HS0:Hid (WI w (w.alloc (.map #[] 0)) 0 (fun z=>decide (z∈os.take 0))):=⟨(Below.refl _ _).alloc (Nat.le_refl _) _,g_b (SetI.made w) (fun z=>by simp)⟩;clear hl ho hw1 hw2;go_enter Tryz.func96,Tryz.ntmps96;go_wp2
 go_loopw [18] (fun i wr=>∃(k:Nat),k≤m∧i=.int .i64 k∧Hid (WI w wr k (fun z=>decide (z∈os.take k)))) (fun i _=>m-(intOf i).toNat)
 case atStart=>exact⟨0,Nat.zero_le _,rfl,HS0⟩
 case round=>
  clear HS0;obtain⟨k,hk,rfl,HS⟩:=hrel;by_cases hlt:k<m
  ·obtain⟨b,off,u,rfl,hu,c0,hbb,hdr⟩:=Ints.at_ (Reads.keep HO.out HS.out.old) hlt
   have HSW:Hid ((Lit.int .i64 u).wf=true):=HW2.out u (List.mem_of_getElem? hu);have HT:Hid (os.take (k+1)=os.take k++[u]):=Lib.hid (by rw[List.take_add_one,hu];rfl);clear hu hdr hbb;go_wp2_with (at_mapUpdate;refine s_K rfl _ _ _ rfl u HS.out.set (by unfold maxLen;omega) HSW.out rfl rfl rfl ?_;intro w2 hs2 ht2;(try simp only[Act.put]))
   have HS3:Hid (WI w w2 (k+1) (fun z=>decide (z∈os.take (k+1)))):=HS.out.turn (g_b hs2 (fun z=>by rw[HT.out];simp)) ht2;clear hs2 ht2 HS;go_roundw
   case rel=>exact⟨k+1,by omega,by go_num,HS3⟩
   case measure=>simp[intOf];omega
  ·have hke:k=m:=by omega
   subst hke;have HS1:Hid (WI w wr k (outP os ((l.map (·.rt)).take 0) [])):=⟨HS.out.old,g_b HS.out.set (fun z=>by rw[List.take_of_length_le (by rw[HL2.out];exact Nat.le_refl _)];simp[outP,a_Q])⟩;clear HS;go_wp2
   go_loopw [28] (fun i wr=>∃(k2:Nat),k2≤n∧i=.int .i64 k2∧Hid (WI w wr k (outP os ((l.map (·.rt)).take k2) []))) (fun i _=>n-(intOf i).toNat)
   case atStart=>exact⟨0,Nat.zero_le _,rfl,HS1⟩
   case round=>
    clear HS1;obtain⟨k2,hk2,rfl,HS⟩:=hrel;obtain⟨wo,rfl⟩:∃z,z=wr:=⟨_,rfl⟩;by_cases hlt:k2<n
    ·obtain⟨b,off,x,rfl,hbb,hx,hdr,c0,c1,c2',hst,hxc⟩:=(HI.out.keep HS.out.old).at_ hlt
     have HX:=Lib.hid hx;have hxm:=Recs.le hst;have HXL:=Lib.hid hst.length;have HXW:Hid (∀ s∈x.rt.stops,(Lit.int .i64 s.ord).wf=true):=Lib.hid (HW1.out x (List.mem_of_getElem? hx));have HS1:Hid (WI w (wo.alloc (.cells #[.int .i64 x.rt.drv,.int .i64 x.rt.served,.slice x.a x.n x.c] 37)) k (outP os ((l.map (·.rt)).take k2) [])):=HS.out.below ((Below.refl _ _).alloc (Nat.le_refl _) _);clear hx hdr hst HS;go_wp2_with fail
     refine(pdone_any _ _ _ x.rt _ (by exact hxc) (by exact hxm)).mono ?_;rintro e w1 ⟨⟨A',rfl,hA'⟩,hb1⟩;have HS2:Hid (WI w w1 k (outP os ((l.map (·.rt)).take k2) (x.rt.stops.take 0))):=by rw[List.take_zero];exact HS1.out.below hb1
     have hdl:=l_N x.rt x.n;have HDT:=Lib.hid (m_8 x.rt HXL.out);obtain⟨d,hd⟩:∃d,g_R x.rt x.n=d:=⟨_,rfl⟩;rw[hd]at hdl HDT hA' ⊢;have HA:=Lib.hid hA';clear hd hA' hb1 HS1 c0 c1 c2';go_wp2
     go_loopw [35] (fun i wi=>∃(j:Nat),j≤d∧i=.int .i64 j∧Hid (WI w wi k (outP os ((l.map (·.rt)).take k2) (x.rt.stops.take j)))) (fun i _=>d-(intOf i).toNat)
     case atStart=>exact⟨0,Nat.zero_le _,rfl,HS2⟩
     case round=>
      clear HS2;obtain⟨j,hj,rfl,HSI⟩:=hrel;by_cases hlt2:j<d
      ·obtain⟨_,_,y,_,_,hy,_,_,_,_,hst,_⟩:=(HI.out.keep HSI.out.old).at_ hlt
       obtain rfl:y=x:=by have h:=HX.out;rw[h]at hy;injection hy with h;exact h.symm
       obtain⟨b2,off2,s,hxa,hbb2,hs,hdr2,s0,s1⟩:=Stps.at_ hst (i:=j) (by omega);have hAA:=HA.out (by omega);rw[hxa]at hAA;subst hAA;have HSW:Hid ((Lit.int .i64 s.ord).wf=true):=HXW.out s (List.mem_of_getElem? hs);have HT:Hid (y.rt.stops.take (j+1)=y.rt.stops.take j++[s]):=Lib.hid (by rw[List.take_add_one,hs];rfl);have HS2:Hid (WI w (wr.alloc (.cells #[.int .i64 s.ord,.bool s.drop] 48)) k (outP os ((l.map (·.rt)).take k2) (y.rt.stops.take j))):=HSI.out.below ((Below.refl _ _).alloc (Nat.le_refl _) _);clear hst hy hs hdr2 hbb2 hxa HSI;go_wp2_with (at_delete;refine s_L rfl _ _ rfl s.ord HS2.out.set HSW.out rfl rfl ?_;intro w2 hs2 ht2;(try simp only[Act.put]))
       have HS3:Hid (WI w w2 k (outP os ((l.map (·.rt)).take k2) (y.rt.stops.take (j+1)))):=HS2.out.turn (g_b hs2 (fun z=>by rw[HT.out];exact p_f z)) ht2;clear hs2 ht2 HS2;go_roundw
       case rel=>exact⟨j+1,by omega,by go_num,HS3⟩
       case measure=>simp[intOf];omega
      ·have hje:j=d:=by omega
       subst hje
       have HS3:Hid (WI w wr k (outP os ((l.map (·.rt)).take (k2+1)) [])):=by
        have h:=HSI.out;refine⟨h.old,g_b h.set fun z=>?_⟩;have e:(l.map (·.rt)).take (k2+1)=(l.map (·.rt)).take k2++[x.rt]:=by rw[List.take_add_one,List.getElem?_map,HX.out];rfl
        rw[e,←HDT.out];exact n_b z
       clear HSI;go_wp2
       go_roundw
       case rel=>exact⟨k2+1,by omega,by go_num,HS3⟩
       case measure=>simp[intOf];omega
    ·have hke:k2=n:=by omega
     subst hke
     have HS1:Hid (WI w wo k (outP os (l.map (·.rt)) [])):=by
      have h:=HS.out;rw[List.take_of_length_le (by rw[List.length_map,HL.out];exact Nat.le_refl _)]at h;exact h
     obtain⟨p,hp⟩:∃p,outP os (l.map (·.rt)) []=p:=⟨_,rfl⟩;rw[hp]at HS1;have HP:=Lib.hid hp;clear hp HS;have HS2:Hid (WI w (wo.alloc (.cells (madeCells #[.int .i64 0,.int .i64 0,.slice none 0 0] (k2*3)) 37)) k p):=HS1.out.below ((Below.refl _ _).alloc (Nat.le_refl _) _);have HF0:Hid (Fill w (wo.alloc (.cells (madeCells #[.int .i64 0,.int .i64 0,.slice none 0 0] (k2*3)) 37)) wo.heap.size k2 []):=Fill.start HS1.out.old;have HFS:Hid (FS w (wo.alloc (.cells (madeCells #[.int .i64 0,.int .i64 0,.slice none 0 0] (k2*3)) 37)) wo.heap.size k2 k p l 0 []):=⟨HS2.out,HF0.out,rfl,(fun r h=>by cases h),HS1.out.set.lt,rfl⟩;clear HS1 HS2 HF0;go_wp2
     clear hmk;go_loopw [49] (fun i wr=>∃(k3:Nat) (l':List RM),k3≤k2∧i=.int .i64 k3∧Hid (FS w wr wo.heap.size k2 k p l k3 l')) (fun i _=>k2-(intOf i).toNat)
     case atStart=>exact⟨0,[],Nat.zero_le _,rfl,HFS⟩
     case round=>
      clear HFS;obtain⟨k3,l',hk3,rfl,HS⟩:=hrel;by_cases hlt:k3<k2
      ·obtain⟨b,off,x,rfl,hbb,hx,hdr,c0,c1,c2',hst,hxc⟩:=(HI.out.keep HS.out.wi.old).at_ hlt
       have HX:=Lib.hid hx;have HXT:=Lib.hid hst;have hfit:x.n*16≤140737488351232:=(HI.out.each x (List.mem_of_getElem? hx)).2.2;have hfl:=n_c (fun s=>!p s.ord) x.rt.stops hst.length;have HXW:Hid (∀ s∈x.rt.stops,(Lit.int .i64 s.ord).wf=true):=Lib.hid (HW1.out x (List.mem_of_getElem? hx));have HB1:Hid (Below wr.heap.size wr (wr.alloc (.cells #[.int .i64 x.rt.drv,.int .i64 x.rt.served,.slice x.a x.n x.c] 37)).drew):=((Below.refl _ _).alloc (Nat.le_refl _) _).drew;have HQ1:Hid (Blk (wr.alloc (.cells #[.int .i64 x.rt.drv,.int .i64 x.rt.served,.slice x.a x.n x.c] 37)).drew wr.heap.size 37 [.int .i64 x.rt.drv,.int .i64 x.rt.served,.slice x.a x.n x.c]):=Blk.new _ _ _;have q0:=HQ1.out.cell (i:=0) rfl;have q1:=HQ1.out.cell (i:=1) rfl;have q2:=HQ1.out.cell (i:=2) rfl;have HST:Hid (Stps (wr.alloc (.cells #[.int .i64 x.rt.drv,.int .i64 x.rt.served,.slice x.a x.n x.c] 37)).drew (wr.alloc (.cells #[.int .i64 x.rt.drv,.int .i64 x.rt.served,.slice x.a x.n x.c] 37)).drew.heap.size x.a x.n x.rt.stops):=Recs.more (Recs.keep HXT.out (HB1.out.mono HS.out.wi.old.size)) (Nat.le_trans HS.out.wi.old.size HB1.out.size);have HSE:Hid (SetI (wr.alloc (.cells #[.int .i64 x.rt.drv,.int .i64 x.rt.served,.slice x.a x.n x.c] 37)).drew w.heap.size k p):=(HS.out.wi.below HB1.out).set;clear hx hdr hst HXT;go_wp2
       go_region_law (go_simp;go_at_call 161;refine(k_O _ _ _ x.rt.stops _ _ p _ HST.out HSE.out HXW.out hfit).mono ?_;rintro e w2 ⟨v,rfl,hes⟩;obtain⟨A9,c9,hv,_,_⟩:=hes.own.read;subst hv;have HQ2:=Lib.hid (HQ1.out.below hes.old HQ1.out.lt);have d0:=HQ2.out.cell (i:=0) rfl;have d1:=HQ2.out.cell (i:=1) rfl;have d2:=HQ2.out.cell (i:=2) rfl;obtain⟨⟨z0,g0⟩,f0,⟨z1,g1⟩,f1,⟨z2,g2⟩,f2⟩:=((HS.out.keep HB1.out).keep hes.old).cells hlt;have HN:=Lib.hid (HS.out.next hlt HX.out HB1.out hes rfl (by omega));clear hes HQ2)
       all_goals
        go_wp2
        go_roundw
        case rel=>exact⟨k3+1,_,by omega,by go_num,HN⟩
        case measure=>simp[intOf];omega
      ·have hke:k3=k2:=by omega
       subst hke;go_wp2
       go_ret;refine⟨_,rfl,l',HS.out.fill.done HS.out.len (by unfold maxLen;omega),?_,HS.out.fits⟩;rw[HS.out.rts,List.take_of_length_le (by rw[HL.out];exact Nat.le_refl _),←HP.out];exact s_H l os
theorem n_d(A:Option Addr)(n c:Nat)(x:Rte)(b:Nat)(d p q y:Int)(w:World)(hb:Blk w b 150 [.int .i64 d,.int .i64 p,.int .i64 q,.int .i64 y]):
 Calls Tryz.prog 155 #[.agg #[.int .i64 x.drv,.int .i64 x.served,.slice A n c],.pointer (some ⟨b,0,none⟩)] w (fun e w'=>e=.returned (.bool (x.drv==d))∧Below w.heap.size w w'):=by
 have h1:=hb.below ((Below.refl _ _).alloc (Nat.le_refl _) (.cells #[.int .i64 x.drv,.int .i64 x.served,.slice A n c] 37)) hb.lt;have c0:=h1.cell (i:=0) rfl;clear h1 hb;go_enter Tryz.func155,Tryz.ntmps155;go_wp2
 go_ret;exact⟨rfl,(Below.refl _ _).alloc (Nat.le_refl _) _⟩
theorem r_p(A:Option Addr)(n c:Nat)(l:List RM)(b:Nat)(d p q y:Int)(w:World)(hl:Plns w w.heap.size A n l)(hb:Blk w b 150 [.int .i64 d,.int .i64 p,.int .i64 q,.int .i64 y]):
 Calls Tryz.prog 154 #[.slice A n c,.func (.func 155) #[] #[.pointer (some ⟨b,0,none⟩)]] w (fun e w'=>e=.returned (.int .i64 (a_L (l.map (·.rt)) d 0))∧Below w.heap.size w w'):=by
 have hm:=Recs.le hl.rows;have HI:=Lib.hid hl;have HL:=Lib.hid hl.length;have HBX:=Lib.hid hb;clear hl hb;go_enter Tryz.func154,Tryz.ntmps154;go_wp2_with fail
 go_loopw [8] (fun iv wr=>∃k:Nat,k≤n∧iv=.int .i64 k∧Hid (Below w.heap.size w wr)∧Hid (a_L ((l.drop k).map (·.rt)) d k=a_L (l.map (·.rt)) d 0)) (fun iv _=>n-(intOf iv).toNat)
 case atStart=>exact⟨0,Nat.zero_le _,rfl,Below.refl _ _,Lib.hid rfl⟩
 case round=>
  obtain⟨k,hk,rfl,HB,HK⟩:=hrel;by_cases hlt:k<n
  ·obtain⟨bb,off,x,rfl,hbb,hx,hdr,c0,c1,c2,hst,_⟩:=(HI.out.keep HB.out).at_ hlt
   have HK1:=HK.out;rw[hdr,List.map_cons,c_e]at HK1;have HBW:Hid (Blk wr b 150 [.int .i64 d,.int .i64 p,.int .i64 q,.int .i64 y]):=HBX.out.below HB.out HBX.out.lt;have HC:=Lib.hid (n_d x.a x.n x.c x.rt b d p q y);by_cases hid:x.rt.drv=d
   ·rw[if_pos hid]at HK1
    have HF:=Lib.hid HK1;have e1:(x.rt.drv==d)=true:=by simpa using hid
    rw[e1]at HC;clear hid HK HK1 hx hdr hst;go_wp2_with fail
    refine(HC.out _ (by exact HBW.out)).mono ?_;rintro e w' ⟨rfl,hb2⟩;have HB2:=Lib.hid (HB.out.trans (hb2.mono HB.out.size));clear hb2 c0 c1 c2;go_wp2_with fail
    go_ret;exact⟨a_5 (by rw[HF.out]),HB2.out⟩
   ·rw[if_neg hid]at HK1
    have HF:=Lib.hid HK1;have e1:(x.rt.drv==d)=false:=by simpa using hid
    rw[e1]at HC;clear hid HK HK1 hx hdr hst;go_wp2_with fail
    refine(HC.out _ (by exact HBW.out)).mono ?_;rintro e w' ⟨rfl,hb2⟩;have HB2:=Lib.hid (HB.out.trans (hb2.mono HB.out.size));clear hb2 c0 c1 c2;go_wp2_with fail
    go_roundw
    case rel=>exact⟨k+1,by omega,by go_num,HB2,HF⟩
    case measure=>simp[intOf];omega
  ·have HF:Hid (-1=a_L (l.map (·.rt)) d 0):=by
    have h:=HK.out;rw[List.drop_of_length_le (by have:=HL.out;omega)]at h;exact h
   clear HK;go_wp2_with fail
   go_ret;exact⟨a_5 (by rw[← HF.out]),HB.out⟩
theorem r_q{l:List RM}{i:Nat}{x:RM}(hx:l[i]?=some x)(s:List Stp)(A:Option Addr)(m c:Nat):(rmsV l).set (i*3+2) (.slice A m c)=rmsV (l.set i ⟨⟨x.rt.drv,x.rt.served,s⟩,A,m,c⟩):=by
 induction l generalizing i with
 |nil=>cases hx
 |cons y r ih=>
  cases i with
  |zero=>
   simp at hx;subst hx;rfl
  |succ i=>
   have h1:=ih (i:=i) (by simpa using hx);rw[List.set_cons_succ];have e1:∀t,rmsV (y::t)=.int .i64 y.rt.drv::.int .i64 y.rt.served::.slice y.a y.n y.c::rmsV t:=fun t=>rfl;rw[e1,e1,←h1,show(i+1)*3+2=(i*3+2)+1+1+1 by omega];rfl
theorem NewP.other{w0 w1 w:World}{v:Value}{l:List RM}{i:Nat}{x:RM}{A:Option Addr}{s:List Stp}{c m:Nat}(h:NewP w1 w v l)(hw:Below w0.heap.size w0 w1)(ho:OwnK w1 w0.heap.size 48 2 (.slice A m c) m (a_D s))(hx:l[i]?=some x):
 ∃g cap,v=.slice (some ⟨g,0,none⟩) l.length cap∧(∃ u,w.cell? ⟨g,i*3+2,none⟩=some u)∧w.frozen? ⟨g,i*3+2,none⟩=false∧Hid (NewP w0 (w.setCell ⟨g,i*3+2,none⟩ (.slice A m c)) v (l.set i ⟨⟨x.rt.drv,x.rt.served,s⟩,A,m,c⟩)):=by
 have hlt:=(List.getElem?_eq_some_iff.1 hx).1;have hs:=hw.size;rcases h.own.blk with⟨_,h0⟩|⟨g,cap,cur,rfl,hg,hB,hnc,hcl,htk⟩
 ·omega
 have hi:i*3+2<cur.length:=by
  have:(i+1)*3≤cap*3:=Nat.mul_le_mul_right _ (by omega);omega
 refine⟨g,cap,rfl,⟨_,hB.cell (List.getElem?_eq_getElem hi)⟩,hB.free _,?_⟩;have hoth:∀q,q≠g→(w.setCell ⟨g,i*3+2,none⟩ (.slice A m c)).heap[q]?=w.heap[q]? :=fun q hq=>Below.heap_setCell _ _ _ _ hq
 have hown:∀{base:Nat} {r:Value} {k:Nat} {vs:List Value},OwnK w base 48 2 r k vs→Two r (.slice (some ⟨g,0,none⟩) l.length cap)→OwnK (w.setCell ⟨g,i*3+2,none⟩ (.slice A m c)) base 48 2 r k vs:=by
  rintro base r k vs ⟨⟨h1,h2⟩,h3⟩ h4;refine⟨⟨h1,?_⟩,h3⟩;rcases h2 with h2|⟨q,cp,cr,e,hq,hh,hr⟩
  ·exact .inl h2
  ·exact .inr ⟨q,cp,cr,e,hq,(hoth q (fun e'=>h4 q (by rw[e];rfl) (by subst e';rfl))).trans hh,hr⟩
 have ht:Two (.slice A m c) (.slice (some ⟨g,0,none⟩) l.length cap):=by
  intro q hq e;have:=(a_8 ho hq).2;have e':g=q:=by simpa[Value.ownBlock]using e
  omega
 refine Lib.hid ⟨(hw.trans (h.old.mono hs)).setCell (by show w0.heap.size≤g;omega) _,?_,fun r hr=>?_⟩
 ·have hb:=hB.put (i*3+2) (.slice A m c)
  have e:(cur.set (i*3+2) (.slice A m c)).take (l.length*3)=rmsV (l.set i ⟨⟨x.rt.drv,x.rt.served,s⟩,A,m,c⟩):=by
   rw[List.take_set,htk];exact r_q hx s A m c
  rw[List.length_set];refine⟨⟨by rw[← e,List.length_take,List.length_set];have:l.length*3≤cap*3:=Nat.mul_le_mul_right _ hnc;omega,.inr ⟨g,cap,(cur.set (i*3+2) (.slice A m c)).toArray,rfl,by omega,hb,hnc,?_,by simp[hcl],e⟩⟩,h.own.2⟩;rcases h.own.1.2 with⟨h7,_⟩|⟨g2,cap2,cur2,h7,_,_,_,h8,_⟩
  ·cases h7
  ·injection h7 with _ _ h7
   rw[h7];exact h8
 ·rcases List.mem_or_eq_of_mem_set hr with hr|rfl
  ·obtain⟨h1,h2⟩:=h.each r hr
   exact⟨(hown h1 h2).lower hs,h2⟩
  ·exact⟨hown (ho.keep (h.old.mono (Nat.le_refl _)) (Nat.le_refl _)) ht,ht⟩
theorem num_cases(l:List Rte)(d:Int)(k:Nat):(a_L l d k=-1∧∀x∈l,x.drv≠d)∨∃i x,a_L l d k=((k+i:Nat):Int)∧l[i]?=some x∧x.drv=d:=by
 induction l generalizing k with
 |nil=>exact .inl ⟨rfl,fun x h=>by cases h⟩
 |cons y r ih=>
  rw[c_e];by_cases h:y.drv=d
  ·rw[if_pos h]
   exact .inr ⟨0,y,rfl,rfl,h⟩
  ·rw[if_neg h]
   rcases ih (k+1)with⟨h1,h2⟩|⟨i,x,h1,h2,h3⟩
   ·exact .inl ⟨h1,fun x hx=>by rcases List.mem_cons.1 hx with rfl|hx;exact h;exact h2 x hx⟩
   ·exact .inr ⟨i+1,x,by rw[h1];congr 1;omega,h2,h3⟩
theorem n_e(l:List Rte)(o:Int)(s:Spt)(h:a_L l s.drv 0=-1):b_U l o s=none:=by
 unfold b_U;rw[h];rfl
theorem withP_some(l:List Rte)(o:Int)(s:Spt){i:Nat}{x:Rte}(h:a_L l s.drv 0=(i:Int))(hx:l[i]?=some x):b_U l o s=if d_g l o s x then some (l.set i ⟨x.drv,x.served,putR x.stops o s.pick s.drop⟩)else none:=by
 unfold b_U;rw[h,if_neg (by omega),Int.toNat_natCast,hx]
def t_q(w:World)(r:Option (List Rte))(e:Ending)(w':World):Prop:=Below w.heap.size w w'∧match r with
 |none=>e=.returned (.tuple #[.slice none 0 0,.bool false])
 |some q=>∃v,e=.returned (.tuple #[v,.bool true])∧Made w w' v q
theorem d_b{w w':World}{r:Option (List Rte)}(h:none=r)(hb:Below w.heap.size w w'):t_q w r (.returned (.tuple #[.slice none 0 0,.bool false])) w':=by
 subst h;exact⟨hb,rfl⟩
theorem n_f{b:Bool}{q:List Rte}{r:Option (List Rte)}(h:r=if b then some q else none)(hb:b=false):none=r:=by rw[h,hb];rfl
theorem j_b(A:Option Addr)(n c:Nat)(l:List RM)(o:Int)(s:Spt)(y:Int)(w:World)(hl:Plns w w.heap.size A n l):
 Calls Tryz.prog 92 #[.slice A n c,.int .i64 o,.agg #[.int .i64 s.drv,.int .i64 s.pick,.int .i64 s.drop,.int .i64 y]] w (t_q w (b_U (l.map (·.rt)) o s)):=by
 have hm:=Recs.le hl.rows;have HI:=Lib.hid hl;have HL:=Lib.hid hl.length;have HB0:Hid (Below w.heap.size w (w.alloc (.cells #[.int .i64 s.drv,.int .i64 s.pick,.int .i64 s.drop,.int .i64 y] 150))):=(Below.refl _ _).alloc (Nat.le_refl _) _;have HQ0:Hid (Blk (w.alloc (.cells #[.int .i64 s.drv,.int .i64 s.pick,.int .i64 s.drop,.int .i64 y] 150)) w.heap.size 150 [.int .i64 s.drv,.int .i64 s.pick,.int .i64 s.drop,.int .i64 y]):=Blk.new _ _ _;have HI0:=Lib.hid ((hl.keep HB0.out).more HB0.out.size);clear hl;go_enter Tryz.func92,Tryz.ntmps92;go_wp2_with fail
 refine(r_p _ _ _ l _ _ _ _ _ _ (by exact HI0.out) (by exact HQ0.out)).mono ?_;rintro e w1 ⟨rfl,hb1⟩;have HB1:=Lib.hid (HB0.out.trans (hb1.mono HB0.out.size));have HQ1:=Lib.hid (HQ0.out.below hb1 HQ0.out.lt);clear hb1 HI0 HB0 HQ0;rcases num_cases (l.map (·.rt)) s.drv 0 with⟨hnum,_⟩|⟨i,x0,hnum,hx0,hdd⟩
 ·have HF:=Lib.hid (n_e (l.map (·.rt)) o s hnum).symm
  rw[hnum];clear hnum;go_wp2_with fail
  go_ret2
  exact d_b HF.out HB1.out
 ·rw[Nat.zero_add]at hnum
  have HW:=Lib.hid (withP_some (l.map (·.rt)) o s hnum hx0)
  obtain⟨x,hx,hxe⟩:∃x,l[i]?=some x∧x.rt=x0:=by
   rw[List.getElem?_map]at hx0;cases h:l[i]? with
   |none=>rw[h]at hx0;cases hx0
   |some x=>rw[h]at hx0;injection hx0 with hx0;exact⟨x,rfl,hx0⟩
  subst hxe;rw[hnum];have HX:=Lib.hid hx;have hin:i<n:=by have:=(List.getElem?_eq_some_iff.1 hx).1;have:=HL.out;omega
  clear hnum hx hx0 hdd;have HI1:=Lib.hid ((HI.out.keep HB1.out).more HB1.out.size);go_wp2_with fail
  refine(pright_any _ _ _ l _ (by exact HI1.out)).mono ?_;rintro e w2 ⟨rfl,hb2⟩;have HB2:=Lib.hid (HB1.out.trans (hb2.mono HB1.out.size));have HQ2:=Lib.hid (HQ1.out.below hb2 HQ1.out.lt);clear hb2 HI1 HB1 HQ1;obtain⟨rv,hrv⟩:∃r,a_h (l.map (·.rt))=r:=⟨_,rfl⟩;rw[hrv];have HRV:=Lib.hid hrv;clear hrv;cases rv with
  |false=>
   have HF:=Lib.hid (n_f HW.out (by unfold d_g;rw[HRV.out];rfl));go_wp2_with fail
   go_ret2
   exact d_b HF.out HB2.out
  |true=>
   obtain⟨nv,hnv⟩:∃r,nmb o=r:=⟨_,rfl⟩;have HNV:=Lib.hid hnv;clear hnv;go_wp2_with fail
   refine(pnumbered_val _ nv _ HNV.out).mono ?_;rintro e w3 ⟨rfl,rfl⟩;cases nv with
   |false=>
    have HF:=Lib.hid (n_f HW.out (by unfold d_g;rw[HNV.out,Bool.and_false];rfl));go_wp2_with fail
    go_ret2
    exact d_b HF.out HB2.out
   |true=>
    obtain⟨b,off,x',rfl,hbb,hx',hdr,c0,c1,c2,hst,hxc⟩:=(HI.out.keep HB2.out).at_ hin;obtain rfl:x'=x:=by have h:=HX.out;rw[h]at hx';injection hx' with h;exact h.symm
    have HST:=Lib.hid hst;have HB3:Hid (Below w.heap.size w (w2.alloc (.cells #[.int .i64 x'.rt.drv,.int .i64 x'.rt.served,.slice x'.a x'.n x'.c] 37))):=HB2.out.alloc HB2.out.size _;have HR3:Hid (Blk (w2.alloc (.cells #[.int .i64 x'.rt.drv,.int .i64 x'.rt.served,.slice x'.a x'.n x'.c] 37)) w2.heap.size 37 [.int .i64 x'.rt.drv,.int .i64 x'.rt.served,.slice x'.a x'.n x'.c]):=Blk.new _ _ _;have HQ3:=Lib.hid (HQ2.out.below ((Below.refl w2.heap.size w2).alloc (Nat.le_refl _) (.cells #[.int .i64 x'.rt.drv,.int .i64 x'.rt.served,.slice x'.a x'.n x'.c] 37)) HQ2.out.lt);have HI3:=Lib.hid ((HI.out.keep HB3.out).more HB3.out.size);have hx16:x'.n*16≤140737488351232:=(HI.out.each x' (List.mem_of_getElem? HX.out)).2.2;have hx0:0≤x'.rt.served:=d_a HRV.out (List.mem_map_of_mem (List.mem_of_getElem? HX.out));have HXL:=Lib.hid hst.length;clear hx' hdr hst hbb HQ2;go_wp2_with fail
    refine(d_N _ _ _ l o _ (by exact HI3.out)).mono ?_;rintro e w4 ⟨rfl,hb4⟩;have HB4:=Lib.hid (HB3.out.trans (hb4.mono HB3.out.size));have HQ4:=Lib.hid (HQ3.out.below hb4 HQ3.out.lt);have HR4:=Lib.hid (HR3.out.below hb4 HR3.out.lt);clear hb4 HI3 HB3 HQ3 HR3 c0 c1 c2;obtain⟨fv,hfv⟩:∃r,b_b (l.map (·.rt)) o=r:=⟨_,rfl⟩;rw[hfv];have HFV:=Lib.hid hfv;clear hfv;cases fv with
    |some sp=>
     have HF:=Lib.hid (n_f HW.out (by unfold d_g;rw[HFV.out];simp));have HB5:Hid (Below w.heap.size w (w4.alloc (.cells #[.int .i64 sp.drv,.int .i64 sp.pick,.int .i64 sp.drop,.int .i64 0] 150))):=HB4.out.alloc HB4.out.size _;unfold d_T;go_wp2_with fail
     go_ret2
     exact d_b HF.out HB5.out
    |none=>
     have HB5:Hid (Below w.heap.size w (w4.alloc (.cells #[.int .i64 0,.int .i64 0,.int .i64 0,.int .i64 0] 150))):=HB4.out.alloc HB4.out.size _;have HR5:=Lib.hid (HR4.out.below ((Below.refl w4.heap.size w4).alloc (Nat.le_refl _) (.cells #[.int .i64 0,.int .i64 0,.int .i64 0,.int .i64 0] 150)) HR4.out.lt);have HQ5:=Lib.hid (HQ4.out.below ((Below.refl w4.heap.size w4).alloc (Nat.le_refl _) (.cells #[.int .i64 0,.int .i64 0,.int .i64 0,.int .i64 0] 150)) HQ4.out.lt);have r1:=HR5.out.cell (i:=1) rfl;have r2:=HR5.out.cell (i:=2) rfl;have s1:=HQ5.out.cell (i:=1) rfl;have s2:=HQ5.out.cell (i:=2) rfl;clear HQ4 HR4;unfold d_T;by_cases h78:(78:Int)<(x'.n:Int)
     ·have HF:=Lib.hid (n_f HW.out (by unfold d_g;rw[decide_eq_false (by have:=HXL.out;omega),Bool.and_false]))
      go_wp2_with fail
      go_ret2
      exact d_b HF.out HB5.out
     ·by_cases hsv:s.pick<x'.rt.served
      ·have HF:=Lib.hid (n_f HW.out (by unfold d_g;rw[decide_eq_false (by omega),Bool.and_false]))
       go_wp2_with fail
       go_ret2
       exact d_b HF.out HB5.out
      ·have HS5:=Lib.hid (Recs.more (Recs.keep (HI.out.each x' (List.mem_of_getElem? HX.out)).1 HB5.out) HB5.out.size)
       go_wp2_with fail
       refine(Slack.gput_any _ _ _ x'.rt.stops _ _ _ _ (by exact HS5.out) hxc hx16).mono ?_;rintro e w6 ⟨v,rfl,hb6,ho6⟩;have HB6:=Lib.hid (HB5.out.trans (hb6.mono HB5.out.size));obtain⟨A9,c9,hv⟩:=ho6.slice;subst hv;have HO6:=Lib.hid (ho6.lower HB5.out.size);clear hb6 ho6 HS5 r1 r2 s1 s2 HR5 HQ5 HB5;by_cases hok:s.pick≤s.drop∧s.drop≤(x'.n:Int)
       ·have hlen:=r_h (l:=x'.rt.stops) (o:=o) (i:=s.pick) (j:=s.drop) ⟨by omega,hok.1,by rw[HXL.out];exact hok.2⟩
        rw[HXL.out]at hlen
        have HF:Hid (b_U (l.map (·.rt)) o s=some ((l.map (·.rt)).set i ⟨x'.rt.drv,x'.rt.served,putR x'.rt.stops o s.pick s.drop⟩)):=by
         have e:d_g (l.map (·.rt)) o s x'.rt=true:=by
          unfold d_g;rw[HRV.out,HNV.out,HFV.out,decide_eq_true (by rw[HXL.out];omega)];rfl
         have h:=HW.out;rw[e]at h;exact h
        obtain⟨st,hst⟩:∃q,putR x'.rt.stops o s.pick s.drop=q:=⟨_,rfl⟩;rw[hst]at hlen HO6 HF ⊢;rw[hlen]at HO6 ⊢;have HI6:=Lib.hid ((HI.out.keep HB6.out).more HB6.out.size);have h8:=b_2 HRV.out;have hn8:n≤8:=by rw[List.length_map,HL.out]at h8;exact h8
        have HWF:Hid (∀ r∈l,∀s∈r.rt.stops,(Lit.int .i64 s.ord).wf=true):=Lib.hid (fun r hr s hs=>by
         have:=t_p HRV.out r.rt (List.mem_map_of_mem hr) s hs;exact WalkArith.wf_i64 (by omega))
        clear hlen hst hok hsv h8;go_wp2_with fail
        refine(c_F _ _ _ l none 0 0 [] _ (by exact HI6.out) (by omega) (by exact⟨rfl,Nat.zero_le _,fun h=>absurd h (Nat.lt_irrefl _)⟩) HWF.out (fun z h=>by cases h)).mono ?_;rintro e w7 ⟨v7,rfl,l',hnp,hrt,hfit⟩;rw[f_g]at hrt;have hlen':l'.length=n:=by have:=congrArg List.length hrt;rw[List.length_map,List.length_map,HL.out]at this;exact this
        obtain⟨x2,hx2,hx2e⟩:∃x2,l'[i]?=some x2∧x2.rt=x'.rt:=by
         have h:=congrArg (fun t:List Rte=>t[i]?) hrt;simp only[List.getElem?_map,HX.out,Option.map_some]at h;cases h':l'[i]? with
         |none=>rw[h']at h;cases h
         |some x2=>rw[h']at h;injection h with h;exact⟨x2,rfl,h⟩
        obtain⟨g,cap,hv7,⟨z7,hz7⟩,hf7,HN⟩:=hnp.other HB6.out HO6.out hx2;rw[hlen']at hv7;subst hv7
        have HFN:Hid (Made w (w7.setCell ⟨g,i*3+2,none⟩ (.slice A9 (x'.n+2) c9)) (.slice (some ⟨g,0,none⟩) n cap) ((l.map (·.rt)).set i ⟨x'.rt.drv,x'.rt.served,st⟩)):=by
         refine⟨_,HN.out,?_,fun r hr=>?_⟩
         ·rw[List.map_set,hrt,hx2e]
         ·rcases List.mem_or_eq_of_mem_set hr with hr|rfl
          ·exact hfit r hr
          ·show(x'.n+2)*16≤_;omega
        have HBE:Hid (Below w.heap.size w (w7.setCell ⟨g,i*3+2,none⟩ (.slice A9 (x'.n+2) c9))):=HN.out.old;clear hnp hrt hfit hlen' hx2 hx2e HN HI6 HO6;go_wp2_with fail
        go_ret2
        refine⟨HBE.out,?_⟩;rw[HF.out];exact⟨_,rfl,HFN.out⟩
       ·have hst:putR x'.rt.stops o s.pick s.drop=[]:=by
         have:=HXL.out;exact o_9 (by omega)
        rw[hst];have HF:=Lib.hid (n_f HW.out (by unfold d_g;rw[decide_eq_false (by have:=HXL.out;omega),Bool.and_false]));clear hst hok HO6;go_wp2_with fail
        go_ret2
        exact d_b HF.out HB6.out
theorem Below.then{W u u':World}(h:Below W.heap.size W u)(hb:Below u.heap.size u u'):Below W.heap.size W u':=h.trans (hb.mono h.size)
theorem i_b{z:Int}(h:1≤z∧z≤1000000):(Lit.int .i64 z).wf=true:=by
 simp[Lit.wf,IntKind.min,IntKind.max,IntKind.signed,IntKind.bits];omega
theorem l_O{w w':World}{v:Value}{p:List Rte}(h:Made w w' v p):∃A c l',v=.slice A p.length c∧Below w.heap.size w w'∧Plns w' w'.heap.size A p.length l'∧l'.map (·.rt)=p∧l'.length=p.length∧NewP w w' v l':=by
 obtain⟨l',h1,h2,h3⟩:=h;obtain⟨A,c,e,_,hp⟩:=h1.plns h3;have hl:l'.length=p.length:=by have:=congrArg List.length h2;simpa using this
 rw[hl]at hp e;exact⟨A,c,l',e,h1.old,hp,h2,hl,h1⟩
section
variable (W u : World)
theorem g_c(A:Option Addr)(n c:Nat)(l:List RM)(A2:Option Addr)(m c2:Nat)(os:List Int)(p:List Rte)(h:Plns u u.heap.size A n l)(hn:n*40≤140737488351232)(ho:Ints u u.heap.size A2 m os)
 (hw1:∀r∈l,∀s∈r.rt.stops,(Lit.int .i64 s.ord).wf=true) (hw2:∀z∈os,(Lit.int .i64 z).wf=true) (hu:Below W.heap.size W u) (hp:a_b (l.map (·.rt)) os=p):
 Calls Tryz.prog 96 #[.slice A n c,.slice A2 m c2] u fun e u'=>∃B k l',e=.returned (.slice B p.length k)∧Below u.heap.size u u'∧Below W.heap.size W u'∧Plns u' u'.heap.size B p.length l'∧l'.map (·.rt)=p∧l'.length=p.length∧NewP u u' (.slice B p.length k) l':=by
 refine(c_F A n c l A2 m c2 os u h hn ho hw1 hw2).mono ?_;rintro e u' ⟨v,rfl,hv⟩;rw[hp]at hv;obtain⟨B,k,l',rfl,hb,h1,h2,h3,h4⟩:=l_O hv;exact⟨B,k,l',rfl,hb,Below.then hu hb,h1,h2,h3,h4⟩
theorem r_r(A:Option Addr)(n c:Nat)(l:List RM)(o:Int)(s:Spt)(y:Int)(p:List Rte)(h:Plns u u.heap.size A n l)(hu:Below W.heap.size W u)(hr:b_U (l.map (·.rt)) o s=some p):
 Calls Tryz.prog 92 #[.slice A n c,.int .i64 o,.agg #[.int .i64 s.drv,.int .i64 s.pick,.int .i64 s.drop,.int .i64 y]] u fun e u'=>∃B k l',e=.returned (.tuple #[.slice B p.length k,.bool true])∧Below u.heap.size u u'∧Below W.heap.size W u'∧Plns u' u'.heap.size B p.length l'∧l'.map (·.rt)=p∧l'.length=p.length∧NewP u u' (.slice B p.length k) l':=by
 refine(j_b A n c l o s y u h).mono ?_;rintro e u' ⟨hb,hv⟩;rw[hr]at hv;obtain⟨v,rfl,hv⟩:=hv;obtain⟨B,k,l',rfl,_,h1,h2,h3,h4⟩:=l_O hv;exact⟨B,k,l',rfl,hb,Below.then hu hb,h1,h2,h3,h4⟩
end
end Plan
end Go.Proofs.YtkpnmpjnpcjohaaGreat
